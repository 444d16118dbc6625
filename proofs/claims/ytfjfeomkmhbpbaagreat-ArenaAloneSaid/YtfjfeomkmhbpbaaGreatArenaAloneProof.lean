/- Alone each slot is taken once, then none; its generation has gone on by 1, and the intent lasts: the law answers true for every config and thread, and changes nothing. Conditions: none. -/
import Derived.Test.YtfjfeomkmhbpbaaGreatKArE
import Derived.Deep.DeepCutAuto
import Derived.Deep.CutBlock
import Derived.Deep.MidRow
import Derived.Test.YtfjfeomkmhbpbaaGreatKView
import Derived.Test.YtfjfeomkmhbpbaaGreatArenaAloneFacts
namespace Go.Proofs.YtfjfeomkmhbpbaaGreat
open Go.ChangeShapes Go.WideShapes Go.ChangeAt Go.RowKit
set_option linter.unusedVariables false

theorem ints_cell {W : World} {k : IntKind} {g i : Nat} {zs : List Int} {z : Int} (h : Ints W k (some ⟨g, 0, none⟩) zs) (hi : i < zs.length) (hz : zs.getD i 0 = z) : W.cell? ⟨g, i, none⟩ = some (.int k z) := by
  obtain ⟨ad, e, _, hc⟩ := h (by omega)
  injection e with e
  subst e
  have h2 := hc i hi
  rw [at0] at h2
  rw [h2, hz]
theorem bool_info : (Tryz.prog.info? 4).map (fun i => (i.zero, i.size, i.bytes)) = some (some (.bool false), 1, 1) := by kernel_rfl
theorem make_bools (n : Nat) (hc : n ≤ 1000000000) (W : World) :
    (Instr.makeSlice 83 (.int .i64 (n : Int)) (.int .i64 (n : Int))).run Tryz.prog W = .ok (.slice (some ⟨W.heap.size, 0, none⟩) n n) (W.alloc (.cells (madeCells #[.bool false] n) 4)) := by
  obtain ⟨i, hi, hz0, hz1, hz2⟩ := info_one bool_info
  have h := run_makeInts (k := .u8) Tryz.underlying83 hi hz0 hz1 n n (Nat.le_refl _) (by rw [hz2]; omega) (by unfold maxLen; omega) W
  rw [Nat.mul_one] at h
  exact h
/-- The first i are taken. -/
def tkV (s i : Nat) : List Value := (List.range s).map fun j => .bool (decide (j < i))
theorem made_bools (n : Nat) : madeCells #[.bool false] n = (tkV n 0).toArray := by
  apply Array.ext
  · simp [madeCells, tkV]
  · intro i h1 h2
    simp [madeCells, Nat.mod_one, tkV]
theorem tkV_at {s i : Nat} (h : i < s) : (tkV s i)[i]? = some (.bool false) := by
  unfold tkV
  rw [List.getElem?_map, List.getElem?_range h]
  simp
theorem tkV_set {s i : Nat} : (tkV s i).set i (.bool true) = tkV s (i + 1) := by
  apply List.ext_getElem
  · simp [tkV]
  · intro j h1 h2
    rw [List.getElem_set]
    simp only [tkV, List.getElem_map, List.getElem_range]
    by_cases e : i = j
    · rw [if_pos e, show decide (j < i + 1) = true from by simp; omega]
    · rw [if_neg e]
      congr 1
      rw [decide_eq_decide]
      omega
set_option maxRecDepth 100000 in
set_option maxHeartbeats 16000000 in
theorem arenaAlone_yes (w : World) (t s l b th : Nat) (hg : GrOk t s l b) (hth : th < t) :
    Calls Tryz.prog 6 #[.agg #[.int .i64 t, .int .i64 s, .int .i64 l, .int .i64 b], .int .i64 th] w fun e w' => e = .returned (.bool true) ∧ Ext w w' := by
  have X0 := Lib.hid ((Ext.refl w).alloc (.cells #[.int .i64 t, .int .i64 s, .int .i64 l, .int .i64 b] 23))
  have B0 := Lib.hid (Blk.new w 23 [.int .i64 t, .int .i64 s, .int .i64 l, .int .i64 b])
  have HY := Lib.hid (fun W => few9_yes t s l b W hg)
  have HAl := Lib.hid (fun W => all_ok W t s l b hg)
  have HAw := Lib.hid (fun W => awake12_ok W)
  obtain ⟨hc, h1, h2, h3, h4⟩ := id hg
  obtain ⟨⟨q0, q1⟩, ⟨q2, q3⟩, ⟨q4, q5⟩, q6, q7⟩ := id hc
  have t6 : t ≤ 6 := by omega
  have s30 : s ≤ 30 := by omega
  have s1 : 1 ≤ s := by omega
  have l8 : l ≤ 8 := by omega
  have l1 : 1 ≤ l := by omega
  have HLa := Lib.hid (fun (W : World) (A : Option Addr) (c : Nat) (h : PutsAt W A (rowPs (layF t s l b) (upN s) s)) => lay_ok W A s c t s l b (rowPs (layF t s l b) (upN s) s) hg (rowPs_len _ _ _) (by omega) h)
  have HOk := Lib.hid (okayF hc)
  have HCf : Hid (CfgN t s l b) := Lib.hid ⟨by omega, by omega, by omega, by omega, by omega⟩
  have HB8 : Hid (0 < b ∧ b ≤ 8) := Lib.hid (by omega)
  have HAA : Hid (TA.AA t s l b th 0 (groundSt t s l b (rowPs (layF t s l b) (upN s) s))) := Lib.hid (TA.AA.start (by omega) (by omega) (by omega) (by omega) (by omega) hth)
  have HFi := Lib.hid (ground_fine t s l b (rowPs (layF t s l b) (upN s) s))
  have HCa := Lib.hid (ground_calm t s l b (rowPs (layF t s l b) (upN s) s) (by rw [rowPs_len]; omega))
  have HN48 : Hid (wN t s l b ≤ 60) := Lib.hid (wN_le (by omega) (by omega) (by omega) (by omega))
  have HmkV := made_bools s
  have hmk := fun W => make_bools s (by omega) W
  have HMd := Lib.hid HmkV
  generalize madeCells #[.bool false] s = MW at *
  have g1 : decide ((th : Int) < 0) = false := by simp
  have g2 : decide ((t : Int) ≤ (th : Int)) = false := by simp; omega
  have g2' : decide (t ≤ th) = false := by simp; omega
  clear hg hc h1 h2 h3 h4 q0 q1 q2 q3 q4 q5 q6 q7 HmkV
  go_enter Tryz.func6, Tryz.ntmps6
  go_upto_region 1 with fail
  generalize w.alloc (.cells #[.int .i64 t, .int .i64 s, .int .i64 l, .int .i64 b] 23) = W0 at *
  have y0 : W0.cell? ⟨w.heap.size, 0, none⟩ = some (.int .i64 t) := B0.out.cell 0
  have y1 : W0.cell? ⟨w.heap.size, 1, none⟩ = some (.int .i64 s) := B0.out.cell 1
  have y2 : W0.cell? ⟨w.heap.size, 2, none⟩ = some (.int .i64 l) := B0.out.cell 2
  have y3 : W0.cell? ⟨w.heap.size, 3, none⟩ = some (.int .i64 b) := B0.out.cell 3
  go_wp2_with fail
  refine (HY.out _).mono ?_
  rintro e w1 ⟨rfl, x1⟩
  have X1 := Lib.hid (X0.out.trans x1)
  have B1 := Lib.hid (B0.out.ext x1)
  clear x1 y0 y1 y2 y3 X0 B0 HY
  have y0 : w1.cell? ⟨w.heap.size, 0, none⟩ = some (.int .i64 t) := B1.out.cell 0
  have y1 : w1.cell? ⟨w.heap.size, 1, none⟩ = some (.int .i64 s) := B1.out.cell 1
  have y2 : w1.cell? ⟨w.heap.size, 2, none⟩ = some (.int .i64 l) := B1.out.cell 2
  have y3 : w1.cell? ⟨w.heap.size, 3, none⟩ = some (.int .i64 b) := B1.out.cell 3
  go_wp2_with fail
  refine (HAl.out _).mono ?_
  rintro e w2 ⟨A, c, rfl, hp, x2⟩
  have HL2 := Lib.hid (HLa.out w2 A c hp)
  have X2 := Lib.hid (X1.out.trans x2)
  have B2 := Lib.hid (B1.out.ext x2)
  clear hp x2 HAl HLa X1 B1 y0 y1 y2 y3
  go_wp2_with fail
  refine HL2.out.mono ?_
  rintro e w3 ⟨gl, gm, dv, pv, g, R, rv, rfl, bl, gr⟩
  obtain ⟨s0, hs0⟩ : ∃ s0, groundSt t s l b (rowPs (layF t s l b) (upN s) s) = s0 := ⟨_, rfl⟩
  rw [hs0] at gr HAA HFi HCa
  have X3 := Lib.hid (X2.out.trans gr.mem.lt.1)
  have B3 := Lib.hid (B2.out.ext gr.mem.lt.1)
  have BL := Lib.hid bl
  have M3 := Lib.hid gr.mem
  clear bl gr hs0 HL2
  have y0 : w3.cell? ⟨w.heap.size, 0, none⟩ = some (.int .i64 t) := B3.out.cell 0
  have y1 : w3.cell? ⟨w.heap.size, 1, none⟩ = some (.int .i64 s) := B3.out.cell 1
  have y2 : w3.cell? ⟨w.heap.size, 2, none⟩ = some (.int .i64 l) := B3.out.cell 2
  have y3 : w3.cell? ⟨w.heap.size, 3, none⟩ = some (.int .i64 b) := B3.out.cell 3
  go_upto_block 0 with fail
  have B4 : Hid (Blk (w3.alloc (.cells MW 4)) w3.heap.size 4 (tkV s 0)) := Lib.hid (by have := Blk.new w3 4 (tkV s 0); rw [← HMd.out] at this; exact this)
  have X4 := Lib.hid ((Ext.refl w3).alloc (.cells MW 4))
  generalize w3.alloc (.cells MW 4) = w4 at *
  have HGk : Hid (w2.heap.size ≤ w3.heap.size ∧ gl < w3.heap.size) := Lib.hid ⟨M3.out.lt.1.size, BL.out.lt⟩
  have M4 : Hid (IsMem (fun q => q = gl ∨ q = w3.heap.size) w4 w2 w4 gm dv pv s0) := Lib.hid (M3.out.hold X4.out (fun b hb => by
    have h1 := X4.out.size
    rcases hb with e | e
    · rw [e]; exact ⟨Nat.lt_of_lt_of_le BL.out.lt h1, Or.inl (Or.inr rfl)⟩
    · rw [e]; exact ⟨B4.out.lt, Or.inr (Nat.le_refl _)⟩))
  have BL4 := Lib.hid (BL.out.ext X4.out)
  have XW2 := Lib.hid X2.out
  generalize w3.heap.size = gk at *
  clear y0 y1 y2 y3 hmk HMd BL M3 X4 X3 B3 X2
  go_wp2_with fail
  go_loopw [10] (fun i wr => ∃ (k : Nat) (st : MSt), k ≤ s ∧ i = .int .i64 k ∧ TA.AA t s l b th k st ∧ IsMem (fun q => q = gl ∨ q = gk) wr w2 wr gm dv pv st ∧ Fine (12 * k) st.dev ∧ CalmN (100 + 12 * (k : Int)) st ∧ Blk wr gl 205 (cellsF (layF t s l b)) ∧ Blk wr gk 4 (tkV s k)) (fun i _ => s - (intOf i).toNat)
  case atStart => exact ⟨0, s0, Nat.zero_le _, rfl, HAA.out, M4.out, HFi.out, by simpa using HCa.out, BL4.out, B4.out⟩
  case round =>
    obtain ⟨i, st, hi, rfl, aa, mm, fi, ca, lk, gk4⟩ := hrel
    have AK := Lib.hid aa
    have MK := Lib.hid mm
    have FK := Lib.hid fi
    have CK := Lib.hid ca
    have LK := Lib.hid lk
    have KK := Lib.hid gk4
    clear aa mm fi ca lk gk4 M4 BL4 B4 HAA HFi HCa
    have BC := Lib.hid (B2.out.ext MK.out.lt.1)
    have y0 : wr.cell? ⟨w.heap.size, 0, none⟩ = some (.int .i64 t) := BC.out.cell 0
    have y1 : wr.cell? ⟨w.heap.size, 1, none⟩ = some (.int .i64 s) := BC.out.cell 1
    have y2 : wr.cell? ⟨w.heap.size, 2, none⟩ = some (.int .i64 l) := BC.out.cell 2
    have y3 : wr.cell? ⟨w.heap.size, 3, none⟩ = some (.int .i64 b) := BC.out.cell 3
    by_cases hlt : i < s
    · have v1 : decide (i < s) = true := by simp; omega
      have v1' : decide ((i : Int) < (s : Int)) = true := by simp; omega
      go_wp2_with fail
      refine (newTake_ok _ gl (th : Int)).mono ?_
      rintro e w5 ⟨gt, gu, rfl, l2, l3, bt, bu, x5⟩
      have HN : Hid (((gl < wr.heap.size ∧ gk < wr.heap.size) ∧ wr.heap.size ≤ gu ∧ gu < gt) ∧ w2.heap.size ≤ wr.heap.size) := Lib.hid ⟨⟨⟨LK.out.lt, KK.out.lt⟩, l2, l3⟩, MK.out.lt.1.size⟩
      have hTop : toN (peekV st (-2)) = (i : Int) := by rw [AK.out.top, if_pos hlt]
      have HTp := Lib.hid hTop
      have M5 : Hid (IsMem (fun q => q = gl ∨ q = gk ∨ q = gt ∨ q = gu) w5 w2 w5 gm dv pv st) := Lib.hid (MK.out.hold x5 (fun b hb => by
        have h1 := x5.size
        rcases hb with e | e | e | e
        · rw [e]; exact ⟨Nat.lt_of_lt_of_le LK.out.lt h1, Or.inl (Or.inl rfl)⟩
        · rw [e]; exact ⟨Nat.lt_of_lt_of_le KK.out.lt h1, Or.inl (Or.inr rfl)⟩
        · rw [e]; exact ⟨bt.lt, Or.inr (by have := HN.out; omega)⟩
        · rw [e]; exact ⟨bu.lt, Or.inr (by have := HN.out; omega)⟩))
      have L5 := Lib.hid (LK.out.ext x5)
      have K5 := Lib.hid (KK.out.ext x5)
      have HU := Lib.hid M5.out.peekU
      have T5 : Hid (TkAt (fun q => q = gl ∨ q = gk ∨ q = gt) w2 w5 gm gt gl dv pv th (TA.run (layF t s l b) th gu st 0).1 (TA.run (layF t s l b) th gu st 0).2) := Lib.hid (TkAt.start M5.out (fun b hb => by
        rcases hb with (e | e | e) | e
        · exact Or.inl e
        · exact Or.inr (Or.inl e)
        · exact Or.inr (Or.inr (Or.inl e))
        · exact Or.inr (Or.inr (Or.inr e))) bt bu (by have := HN.out; omega) (by have := HN.out; omega))
      obtain ⟨re1, re2, re3⟩ := TA.run_end (gu := gu) HB8.out.1 HB8.out.2 (by omega) (by omega) (by omega) hth hlt HU.out AK.out
      have RE := Lib.hid re1
      have RG := Lib.hid re2
      have RK := Lib.hid re3
      clear re1 re2 re3 hTop bt bu x5 l2 l3 M5 LK KK MK y0 y1 y2 y3
      go_wp2_with fail
      generalize wr = wz at *
      go_loopw [12] (fun j wr => ∃ k : Nat, k ≤ 12 ∧ j = .int .i64 k ∧ TkAt (fun q => q = gl ∨ q = gk ∨ q = gt) w2 wr gm gt gl dv pv th (TA.run (layF t s l b) th gu st k).1 (TA.run (layF t s l b) th gu st k).2 ∧ ((TA.run (layF t s l b) th gu st k).1.Wf t l ∧ MOk (2 + t + s) (wN t s l b) (TA.run (layF t s l b) th gu st k).2 ∧ Fine (12 * i + k) (TA.run (layF t s l b) th gu st k).2.dev ∧ CalmN (100 + 12 * (i : Int) + (k : Int)) (TA.run (layF t s l b) th gu st k).2) ∧ Blk wr gl 205 (cellsF (layF t s l b)) ∧ Blk wr gk 4 (tkV s i)) (fun j _ => 12 - (intOf j).toNat)
      case atStart => exact ⟨0, by omega, rfl, T5.out, ⟨tkNew_wf, AK.out.ok.ok, FK.out, by show CalmN (100 + 12 * (i : Int) + ((0 : Nat) : Int)) st; simpa using CK.out⟩, L5.out, K5.out⟩
      case round =>
        obtain ⟨k, hk, rfl, tk, sk, lk, kk⟩ := hrel
        have TK := Lib.hid tk
        have SK := Lib.hid sk
        have LK := Lib.hid lk
        have KK := Lib.hid kk
        clear tk sk lk kk T5 L5 K5
        by_cases hk12 : k < 12
        · have v2 : decide (k < 12) = true := by simp; omega
          have v2' : decide ((k : Int) < 12) = true := by simp; omega
          have hst := takeStep_ok (L := l) (T := t) (i := 12 * i + k) (n := 100 + 12 * (i : Int) + (k : Int)) TK.out (SK.out.2.2.2.calm (by omega)) (by omega) SK.out.2.2.1 HOk.out rfl rfl rfl (by omega) rfl (by omega) (by omega) TK.out.mem.peekU SK.out.2.2.2 SK.out.1 LK.out (Or.inr (Or.inr rfl)) (Or.inl rfl) (by have := HN.out; omega)
          have HSt : Hid (Calls Tryz.prog 28 #[.pointer (some ⟨gt, 0, none⟩), .pointer (some ⟨gm, 0, none⟩)] wr fun e w' => (∃ r, e = .returned (.bool r)) ∧ TkAt (fun q => q = gl ∨ q = gk ∨ q = gt) w2 w' gm gt gl dv pv th (TA.run (layF t s l b) th gu st (k + 1)).1 (TA.run (layF t s l b) th gu st (k + 1)).2 ∧ ∀ b, (b = gl ∨ b = gk ∨ b = gt) → b ≠ gt → w'.heap[b]? = wr.heap[b]?) := Lib.hid (hst.mono (by
            rintro e w' ⟨n1, n2, he, ht, hkp⟩
            rw [TA.run_step AK.out.ok.ok (by omega) (by rw [HTp.out]; omega)] at he ht
            exact ⟨⟨_, he⟩, ht, hkp⟩))
          have hnx := tkS_wf (F := layF t s l b) (T := t) (L := l) (t := th) (n1 := 0) (n2 := 0) rfl (by omega) TK.out.mem.peekU SK.out.1 SK.out.2.2.2
          have hf := tkS_fine9 (F := layF t s l b) (T := t) (t := th) (x := (TA.run (layF t s l b) th gu st k).1) (n1 := 0) (n2 := 0) SK.out.2.2.1 (by rw [SK.out.2.1.n]; have := HN48.out; omega)
          have hm := tkS_mok (F := layF t s l b) (T := t) (t := th) (x := (TA.run (layF t s l b) th gu st k).1) (n1 := 0) (n2 := 0) SK.out.2.1
          rw [TA.run_step AK.out.ok.ok (by omega) (by rw [HTp.out]; omega)] at hnx hf hm
          have SN : Hid ((TA.run (layF t s l b) th gu st (k + 1)).1.Wf t l ∧ MOk (2 + t + s) (wN t s l b) (TA.run (layF t s l b) th gu st (k + 1)).2 ∧ Fine (12 * i + (k + 1)) (TA.run (layF t s l b) th gu st (k + 1)).2.dev ∧ CalmN (100 + 12 * (i : Int) + ((k + 1 : Nat) : Int)) (TA.run (layF t s l b) th gu st (k + 1)).2) := Lib.hid ⟨hnx.1, hm, hf, by rw [show (100 : Int) + 12 * (i : Int) + ((k + 1 : Nat) : Int) = 100 + 12 * (i : Int) + (k : Int) + 1 by omega]; exact hnx.2⟩
          clear hst hnx hf hm
          go_wp2_with fail
          refine HSt.out.mono ?_
          rintro e w6 ⟨⟨r, rfl⟩, t6', k6⟩
          have T6 := Lib.hid t6'
          have K6 := Lib.hid k6
          clear t6' k6 HSt
          go_wp2_with fail
          go_roundw
          case rel => exact ⟨k + 1, by omega, by go_num, T6.out, SN.out, (K6.out gl (Or.inl rfl) (by have := HN.out; omega)).trans LK.out, (K6.out gk (Or.inr (Or.inl rfl)) (by have := HN.out; omega)).trans KK.out⟩
          case measure => simp [intOf]; omega
        · have v2 : decide (k < 12) = false := by simp; omega
          have v2' : decide ((k : Int) < 12) = false := by simp; omega
          obtain rfl : k = 12 := by omega
          have TE : Hid (TkAt (fun q => q = gl ∨ q = gk ∨ q = gt) w2 wr gm gt gl dv pv th (TA.run (layF t s l b) th gu st 8).1 (TA.run (layF t s l b) th gu st 8).2) := Lib.hid TK.out
          have SE : Hid ((TA.run (layF t s l b) th gu st 8).1.Wf t l ∧ MOk (2 + t + s) (wN t s l b) (TA.run (layF t s l b) th gu st 8).2 ∧ Fine (12 * (i + 1)) (TA.run (layF t s l b) th gu st 8).2.dev ∧ CalmN (100 + 12 * ((i + 1 : Nat) : Int)) (TA.run (layF t s l b) th gu st 8).2) := Lib.hid (by
            have h := SK.out
            refine ⟨h.1, h.2.1, ?_, ?_⟩
            · rw [show 12 * (i + 1) = 12 * i + 12 by omega]; exact h.2.2.1
            · rw [show (100 : Int) + 12 * ((i + 1 : Nat) : Int) = 100 + 12 * (i : Int) + ((12 : Nat) : Int) by omega]; exact h.2.2.2)
          have HPt : Hid ((TA.run (layF t s l b) th gu st 8).1.part = 0 ∧ toN (TA.run (layF t s l b) th gu st 8).1.pop.top = (i : Int)) := Lib.hid ⟨rfl, HTp.out⟩
          generalize hr8 : TA.run (layF t s l b) th gu st 8 = r8 at *
          clear hr8 TK SK
          generalize wr = w7 at *
          have HDn : Hid (∀ W, Ext w7 W → Calls Tryz.prog 30 #[.pointer (some ⟨gt, 0, none⟩)] W fun e w' => e = .returned (.bool true) ∧ W = w') := Lib.hid (fun W xw => by
            have h := tkDone_ok (TE.out.ext xw) SE.out.1.part
            rw [show decide (r8.1.part = 0) = true from by simpa using HPt.out.1] at h
            exact h)
          have HSl : Hid (∀ W, Ext w7 W → Calls Tryz.prog 31 #[.pointer (some ⟨gt, 0, none⟩)] W fun e w' => e = .returned (.int .i64 (i : Int)) ∧ Ext W w') := Lib.hid (fun W xw => by
            have h := tkSlot_ok (TE.out.ext xw) SE.out.1
            rw [if_pos HPt.out.1, HPt.out.2] at h
            exact h)
          have M7 : Hid (IsMem (fun q => q = gl ∨ q = gk) w7 w2 w7 gm dv pv r8.2) := Lib.hid (TE.out.mem.reQ (fun b hb => by
            rcases hb with e | e
            · exact Or.inl (Or.inl e)
            · exact Or.inl (Or.inr (Or.inl e))))
          have e1 : decide ((i : Int) < 0) = false := by simp
          have e2 : decide ((s : Int) ≤ (i : Int)) = false := by simp; omega
          have e2' : decide (s ≤ i) = false := by simp; omega
          clear TE
          go_wp2_with fail
          refine (HSl.out _ (Ext.refl _)).mono ?_
          rintro e w8 ⟨rfl, x8⟩
          have M8 := Lib.hid ((M7.out.ext x8).here)
          have L8 := Lib.hid (LK.out.ext x8)
          have K8 := Lib.hid (KK.out.ext x8)
          have HD8 := Lib.hid (HDn.out _ x8)
          have B8 := Lib.hid (B2.out.ext ((M7.out.lt.1).trans x8))
          clear x8 HSl HDn M7 LK KK BC
          have y0 : w8.cell? ⟨w.heap.size, 0, none⟩ = some (.int .i64 t) := B8.out.cell 0
          have y1 : w8.cell? ⟨w.heap.size, 1, none⟩ = some (.int .i64 s) := B8.out.cell 1
          have y2 : w8.cell? ⟨w.heap.size, 2, none⟩ = some (.int .i64 l) := B8.out.cell 2
          have y3 : w8.cell? ⟨w.heap.size, 3, none⟩ = some (.int .i64 b) := B8.out.cell 3
          have k8 : w8.cell? ⟨gk, i, none⟩ = some (.bool false) := by rw [K8.out.cell, tkV_at hlt]
          go_wp2_with fail
          refine HD8.out.mono ?_
          rintro e w' ⟨rfl, rfl⟩
          go_upto_region 16 with fail
          have f8 : w8.frozen? ⟨gk, i, none⟩ = false := K8.out.frozen i
          have fr : Fr (fun b => b = gk) w8 (w8.setCell ⟨gk, i, none⟩ (.bool true)) := Fr.setCell (S := fun b => b = gk) (p := ⟨gk, i, none⟩) (Fr.refl _ w8) (Or.inl rfl) _
          have M9 := Lib.hid (M8.out.turn fr (fun b e => by rw [e]; exact Or.inr rfl) (fun b e => by rw [e]; exact HGk.out.1))
          have L9 := Lib.hid (L8.out.far (p := ⟨gk, i, none⟩) (by have := HGk.out; show gl ≠ gk; omega) (.bool true))
          have K9 : Hid (Blk (w8.setCell ⟨gk, i, none⟩ (.bool true)) gk 4 (tkV s (i + 1))) := Lib.hid (by have := K8.out.set i (.bool true); rw [tkV_set] at this; exact this)
          clear fr
          go_upto_region 17 with fail
          generalize w8.setCell ⟨gk, i, none⟩ (.bool true) = w9 at *
          have B9 := Lib.hid (B2.out.ext M9.out.lt.1)
          clear M8 L8 K8 B8 y0 y1 y2 y3 k8 f8 HD8
          have y0 : w9.cell? ⟨w.heap.size, 0, none⟩ = some (.int .i64 t) := B9.out.cell 0
          have y1 : w9.cell? ⟨w.heap.size, 1, none⟩ = some (.int .i64 s) := B9.out.cell 1
          have y2 : w9.cell? ⟨w.heap.size, 2, none⟩ = some (.int .i64 l) := B9.out.cell 2
          have y3 : w9.cell? ⟨w.heap.size, 3, none⟩ = some (.int .i64 b) := B9.out.cell 3
          have HGn := Lib.hid (gen_ok HOk.out gl (i : Int) w9 L9.out)
          have har := genN_rng HOk.out (i : Int)
          have HPk : Hid (∀ W, Ext w9 W → Calls Tryz.prog 37 #[.pointer (some ⟨gm, 0, none⟩), .int .i64 (genN (layF t s l b) i)] W fun e w' => e = .returned (.tuple #[.int .u64 1, .bool (peekB r8.2 (genN (layF t s l b) i))]) ∧ W = w') := Lib.hid (fun W xw => by
            have h := (M9.out.ext xw).peek _ har.1 har.2
            rw [RG.out] at h
            exact h)
          have HDv : Hid (∀ W, Ext w9 W → Calls Tryz.prog 39 #[.pointer (some ⟨gm, 0, none⟩)] W fun e w' => e = .returned dv ∧ W = w') := Lib.hid (fun W xw => memDevice_ok (M9.out.ext xw))
          obtain ⟨NN, hNN⟩ : ∃ NN, wN t s l b * 8 = NN := ⟨_, rfl⟩
          have hdn : r8.2.dev.n * 8 = NN := by rw [SE.out.2.1.n]; exact hNN
          have HKp : Hid (∀ W, Ext w9 W → Calls Tryz.prog 40 #[dv] W (Words W NN r8.2.dev.kept)) := Lib.hid (fun W xw => ((M9.out.ext xw).dev.keptA NN hdn).mono (fun _ _ h => h.1))
          have HKl : Hid (r8.2.dev.kept.length = NN) := Lib.hid (by rw [RE.out.ok.k]; exact hNN)
          have HAt := Lib.hid (fun W => r12at_ok HCf.out (th : Int) W)
          have eI := TA.int_at (t := t) (s := s) (l := l) (b := b) (th := th) HB8.out.1 HB8.out.2 hth
          have eN := TA.wN_at (t := t) (s := s) (l := l) (b := b) HB8.out.1 HB8.out.2 (by omega) (by omega)
          obtain ⟨p, hp⟩ : ∃ p : Nat, intN (layF t s l b) th = (p : Int) := ⟨49 + 8 * th, by rw [eI]; omega⟩
          have hpN : p < NN := by rw [← hNN, eN]; omega
          have HKv : Hid (r8.2.dev.kept.getD p 0 = (i : Int) + 1) := Lib.hid (by
            have h := RK.out
            unfold keptV at h
            rw [hp] at h
            exact h)
          rw [hp] at HAt
          have XE := Lib.hid ((Ext.refl w9))
          generalize peekB r8.2 (genN (layF t s l b) i) = pb at *
          generalize genN (layF t s l b) i = gn at *
          have p1 : decide ((NN : Int) ≤ (p : Int)) = false := by simp; omega
          have p1' : decide (NN ≤ p) = false := by simp; omega
          have w1c : IntKind.u64.wrap ((i : Int) + 1) = (i : Int) + 1 := u64w _ (by omega) (by omega)
          have w2c : IntKind.u64.wrap (i : Int) = (i : Int) := u64w _ (by omega) (by omega)
          have d5 : (((i : Int) + 1) != ((i : Int) + 1)) = false := by simp
          clear har eI eN hp hNN hdn
          go_wp2_with fail
          refine HGn.out.mono ?_
          rintro e w10 ⟨rfl, x10⟩
          replace XE := Lib.hid (XE.out.trans x10)
          clear x10
          go_wp2_with fail
          refine (HPk.out _ XE.out).mono ?_
          rintro e w' ⟨rfl, rfl⟩
          go_wp2_with fail
          refine (HDv.out _ XE.out).mono ?_
          rintro e w' ⟨rfl, rfl⟩
          go_wp2_with fail
          refine (HKp.out _ XE.out).mono ?_
          rintro e w11 ⟨gq, cq, rfl, -, -, hIk, xk, -, -⟩
          replace XE := Lib.hid (XE.out.trans xk)
          have HIk := Lib.hid hIk
          obtain ⟨y0, y1, y2, y3⟩ : (w11.cell? ⟨w.heap.size, 0, none⟩ = some (.int .i64 t) ∧ w11.cell? ⟨w.heap.size, 1, none⟩ = some (.int .i64 s) ∧ w11.cell? ⟨w.heap.size, 2, none⟩ = some (.int .i64 l) ∧ w11.cell? ⟨w.heap.size, 3, none⟩ = some (.int .i64 b)) := ⟨(B9.out.ext XE.out).cell 0, (B9.out.ext XE.out).cell 1, (B9.out.ext XE.out).cell 2, (B9.out.ext XE.out).cell 3⟩
          clear xk hIk
          go_wp2_with fail
          refine (HAt.out _).mono ?_
          rintro e w12 ⟨rfl, x12⟩
          replace XE := Lib.hid (XE.out.trans x12)
          have ck := ints_cell (HIk.out.ext x12) (by rw [HKl.out]; exact hpN) HKv.out
          clear x12 y0 y1 y2 y3
          go_wp2_with fail
          clear w1c w2c d5 p1 p1'
          go_roundw
          case rel => exact ⟨i + 1, r8.2, by omega, by go_num, RE.out, (M9.out.ext XE.out).here, SE.out.2.2.1, SE.out.2.2.2, L9.out.ext XE.out, K9.out.ext XE.out⟩
          case measure => simp [intOf]; omega
    · obtain rfl : i = s := by omega
      have v1 : decide (i < i) = false := by simp
      have v1' : decide ((i : Int) < (i : Int)) = false := by simp
      have hTop : toN (peekV st (-2)) = -1 := by rw [AK.out.top, if_neg (by omega)]
      have HTp := Lib.hid hTop
      have HLp : Hid (∀ n : Nat, n < l → 0 ≤ logN (layF t i l b) th n) := Lib.hid (fun n hn => by
        have e := TA.log_at (t := t) (s := i) (l := l) (b := b) (th := th) (n := n) HB8.out.1 HB8.out.2 (by omega) (by omega) hth hn
        rw [e]
        omega)
      clear hTop
      go_wp2_with fail
      refine (newTake_ok _ gl (th : Int)).mono ?_
      rintro e w5 ⟨gt, gu, rfl, l2, l3, bt, bu, x5⟩
      have HN : Hid (((gl < wr.heap.size ∧ gk < wr.heap.size) ∧ wr.heap.size ≤ gu ∧ gu < gt) ∧ w2.heap.size ≤ wr.heap.size) := Lib.hid ⟨⟨⟨LK.out.lt, KK.out.lt⟩, l2, l3⟩, MK.out.lt.1.size⟩
      have M5 : Hid (IsMem (fun q => q = gl ∨ q = gt ∨ q = gu) w5 w2 w5 gm dv pv st) := Lib.hid (MK.out.hold x5 (fun b hb => by
        have h1 := x5.size
        rcases hb with e | e | e
        · rw [e]; exact ⟨Nat.lt_of_lt_of_le LK.out.lt h1, Or.inl (Or.inl rfl)⟩
        · rw [e]; exact ⟨bt.lt, Or.inr (by have := HN.out; omega)⟩
        · rw [e]; exact ⟨bu.lt, Or.inr (by have := HN.out; omega)⟩))
      have L5 := Lib.hid (LK.out.ext x5)
      have T5 : Hid (TkAt (fun q => q = gl ∨ q = gt) w2 w5 gm gt gl dv pv th ⟨1, gu, pm0, none, none, none, false, 0, 0⟩ st) := Lib.hid (TkAt.start M5.out (fun b hb => by
        rcases hb with (e | e) | e
        · exact Or.inl e
        · exact Or.inr (Or.inl e)
        · exact Or.inr (Or.inr e)) bt bu (by have := HN.out; omega) (by have := HN.out; omega))
      clear bt bu x5 l2 l3 M5 LK KK MK y0 y1 y2 y3 BC
      go_wp2_with fail
      go_loopw [19] (fun j wr => ∃ (k : Nat) (x : TkM) (s' : MSt), k ≤ 60 ∧ j = .int .i64 k ∧ TkAt (fun q => q = gl ∨ q = gt) w2 wr gm gt gl dv pv th x s' ∧ TA.NN (layF t i l b) t l th (2 + t + i) (wN t i l b) x s' ∧ (x.part = 0 ∨ TA.mu t l x + (k : Int) ≤ 60) ∧ Fine (12 * i + k) s'.dev ∧ CalmN (100 + 12 * (i : Int) + (k : Int)) s' ∧ Blk wr gl 205 (cellsF (layF t i l b))) (fun j _ => 60 - (intOf j).toNat)
      case atStart => exact ⟨0, _, st, by omega, rfl, T5.out, TA.NN.start AK.out.ok.ok HTp.out AK.out.lg, Or.inr (by show (10 : Int) + (l : Int) + (t : Int) + ((0 : Nat) : Int) ≤ 60; omega), FK.out, by simpa using CK.out, L5.out⟩
      case round =>
        obtain ⟨k, x, s', hk, rfl, tk, nn, hmu, fi, ca, lk⟩ := hrel
        have TK := Lib.hid tk
        have NK := Lib.hid nn
        have HMu := Lib.hid hmu
        have FK2 := Lib.hid fi
        have CK2 := Lib.hid ca
        have LK := Lib.hid lk
        clear tk nn hmu fi ca lk T5 L5
        by_cases hlt2 : k < 60
        · have v2 : decide (k < 60) = true := by simp; omega
          have v2' : decide ((k : Int) < 60) = true := by simp; omega
          have HSt := Lib.hid (takeStep_ok (L := l) (T := t) (i := 12 * i + k) (n := 100 + 12 * (i : Int) + (k : Int)) TK.out (CK2.out.calm (by omega)) (by omega) FK2.out HOk.out rfl rfl rfl (by omega) rfl (by omega) (by omega) TK.out.mem.peekU CK2.out NK.out.wf LK.out (Or.inr rfl) (Or.inl rfl) (by have := HN.out; omega))
          go_wp2_with fail
          refine HSt.out.mono ?_
          rintro e w6 ⟨n1, n2, rfl, t5, k5⟩
          have T6 := Lib.hid t5
          have K6 := Lib.hid k5
          have NS := Lib.hid (NK.out.step (F := layF t i l b) rfl (by omega) (by omega) HLp.out TK.out.mem.peekU CK2.out n1 n2)
          have CS := Lib.hid (tkS_wf (F := layF t i l b) (T := t) (L := l) (t := th) (n1 := n1) (n2 := n2) rfl (by omega) TK.out.mem.peekU NK.out.wf CK2.out).2
          have FS : Hid (Fine (12 * i + k + 1) (tkS (layF t i l b) t th x s' n1 n2).2.dev) := Lib.hid (tkS_fine9 FK2.out (by rw [NK.out.ok.n]; have := HN48.out; omega))
          have MS : Hid ((tkS (layF t i l b) t th x s' n1 n2).1.part = 0 ∨ TA.mu t l (tkS (layF t i l b) t th x s' n1 n2).1 + ((k + 1 : Nat) : Int) ≤ 60) := Lib.hid (by
            by_cases hp0 : x.part = 0
            · have et : tkS (layF t i l b) t th x s' n1 n2 = (x, s') := by
                unfold tkS
                rw [hp0]
                rfl
              rw [et]
              exact Or.inl hp0
            · rcases NS.out.2 hp0 with h | h
              · exact Or.inl h
              · rcases HMu.out with h2 | h2
                · exact absurd h2 hp0
                · exact Or.inr (by omega))
          clear t5 k5 HSt
          generalize tkS (layF t i l b) t th x s' n1 n2 = q at *
          go_wp2_with fail
          go_roundw
          case rel => exact ⟨k + 1, q.1, q.2, by omega, by go_num, T6.out, NS.out.1, MS.out, FS.out, by rw [show (100 : Int) + 12 * (i : Int) + ((k + 1 : Nat) : Int) = 100 + 12 * (i : Int) + (k : Int) + 1 by omega]; exact CS.out, (K6.out gl (Or.inl rfl) (by have := HN.out; omega)).trans LK.out⟩
          case measure => simp [intOf]; omega
        · have v2 : decide (k < 60) = false := by simp; omega
          have v2' : decide ((k : Int) < 60) = false := by simp; omega
          obtain rfl : k = 60 := by omega
          have hp0 : x.part = 0 := by
            rcases HMu.out with h | h
            · exact h
            · refine Classical.byContradiction fun c => ?_
              have := TA.mu_pos NK.out c
              omega
          obtain ⟨e1, e2, e3⟩ := NK.out.p0 hp0
          generalize wr = w7 at *
          have HDb : Hid (∀ W, Ext w7 W → Calls Tryz.prog 30 #[.pointer (some ⟨gt, 0, none⟩)] W fun e w' => e = .returned (.bool true) ∧ W = w') := Lib.hid (fun W xw => by
            have h := tkDone_ok (TK.out.ext xw) NK.out.wf.part
            rw [show decide (x.part = 0) = true from by simpa using hp0] at h
            exact h)
          have HSb : Hid (∀ W, Ext w7 W → Calls Tryz.prog 31 #[.pointer (some ⟨gt, 0, none⟩)] W fun e w' => e = .returned (.int .i64 (-1)) ∧ Ext W w') := Lib.hid (fun W xw => by
            have h := tkSlot_ok (TK.out.ext xw) NK.out.wf
            rw [if_pos hp0, e1] at h
            exact h)
          have HEb : Hid (∀ W, Ext w7 W → Calls Tryz.prog 34 #[.pointer (some ⟨gt, 0, none⟩)] W fun e w' => e = .returned (.int .i64 s'.clock) ∧ W = w') := Lib.hid (fun W xw => by
            have h := tkEmpty_ok (TK.out.ext xw)
            rw [e2, if_pos rfl, e3] at h
            exact h)
          have HCb : Hid (∀ W, Ext w7 W → Calls Tryz.prog 42 #[.pointer (some ⟨gm, 0, none⟩)] W fun e w' => e = .returned (.int .i64 s'.clock) ∧ W = w') := Lib.hid (fun W xw => memClock_ok (TK.out.mem.ext xw))
          have XW := Lib.hid TK.out.mem.lt.1
          generalize s'.clock = cl at *
          clear hp0 e1 e2 e3 HMu TK NK FK CK FK2 CK2 AK LK HLp HTp HOk HCf HN48 HB8 HN HGk
          go_wp2_with fail
          refine (HAw.out _).mono ?_
          rintro e w8 ⟨rfl, x8⟩
          have X8 := Lib.hid x8
          clear x8
          go_wp2_with fail
          refine (HDb.out _ X8.out).mono ?_
          rintro e w' ⟨rfl, rfl⟩
          go_wp2_with fail
          refine (HSb.out _ X8.out).mono ?_
          rintro e w11 ⟨rfl, x9⟩
          replace X8 := Lib.hid (X8.out.trans x9)
          clear x9
          go_wp2_with fail
          refine (HEb.out _ X8.out).mono ?_
          rintro e w' ⟨rfl, rfl⟩
          go_wp2_with fail
          refine (HCb.out _ X8.out).mono ?_
          rintro e w' ⟨rfl, rfl⟩
          go_wp2_with fail
          go_ret
          exact ⟨rfl, (XW2.out.trans XW.out).trans X8.out⟩
set_option maxRecDepth 100000 in
set_option maxHeartbeats 4000000 in
theorem arenaAlone_no (w : World) (t s l b th : Int) (h : ¬ GrOk t s l b ∨ th < 0 ∨ t ≤ th) :
    Calls Tryz.prog 6 #[.agg #[.int .i64 t, .int .i64 s, .int .i64 l, .int .i64 b], .int .i64 th] w fun e w' => e = .returned (.bool true) ∧ Ext w w' := by
  have X0 := Lib.hid ((Ext.refl w).alloc (.cells #[.int .i64 t, .int .i64 s, .int .i64 l, .int .i64 b] 23))
  have B0 := Lib.hid (Blk.new w 23 [.int .i64 t, .int .i64 s, .int .i64 l, .int .i64 b])
  have HAw := Lib.hid (fun W => awake12_ok W)
  by_cases hg : GrOk t s l b
  · have h2 : th < 0 ∨ t ≤ th := h.resolve_left (fun c => c hg)
    have HY := Lib.hid (fun W => few9_yes t s l b W hg)
    by_cases hth : th < 0
    · have g1 : decide (th < 0) = true := by simp; omega
      clear h hg h2
      go_enter Tryz.func6, Tryz.ntmps6
      go_upto_region 1 with fail
      generalize w.alloc (.cells #[.int .i64 t, .int .i64 s, .int .i64 l, .int .i64 b] 23) = W0 at *
      have y0 : W0.cell? ⟨w.heap.size, 0, none⟩ = some (.int .i64 t) := B0.out.cell 0
      have y1 : W0.cell? ⟨w.heap.size, 1, none⟩ = some (.int .i64 s) := B0.out.cell 1
      have y2 : W0.cell? ⟨w.heap.size, 2, none⟩ = some (.int .i64 l) := B0.out.cell 2
      have y3 : W0.cell? ⟨w.heap.size, 3, none⟩ = some (.int .i64 b) := B0.out.cell 3
      go_wp2_with fail
      refine (HY.out _).mono ?_
      rintro e w1 ⟨rfl, x1⟩
      have X1 := Lib.hid (X0.out.trans x1)
      clear x1 y0 y1 y2 y3
      go_wp2_with fail
      refine (HAw.out _).mono ?_
      rintro e w2 ⟨rfl, x2⟩
      have X2 := Lib.hid (X1.out.trans x2)
      clear x2
      go_wp2_with fail
      go_ret
      exact ⟨rfl, X2.out⟩
    · have g1 : decide (th < 0) = false := by simp; omega
      have g2 : decide (t ≤ th) = true := by simp; omega
      clear h hg h2
      go_enter Tryz.func6, Tryz.ntmps6
      go_upto_region 1 with fail
      generalize w.alloc (.cells #[.int .i64 t, .int .i64 s, .int .i64 l, .int .i64 b] 23) = W0 at *
      have y0 : W0.cell? ⟨w.heap.size, 0, none⟩ = some (.int .i64 t) := B0.out.cell 0
      have y1 : W0.cell? ⟨w.heap.size, 1, none⟩ = some (.int .i64 s) := B0.out.cell 1
      have y2 : W0.cell? ⟨w.heap.size, 2, none⟩ = some (.int .i64 l) := B0.out.cell 2
      have y3 : W0.cell? ⟨w.heap.size, 3, none⟩ = some (.int .i64 b) := B0.out.cell 3
      go_wp2_with fail
      refine (HY.out _).mono ?_
      rintro e w1 ⟨rfl, x1⟩
      have X1 := Lib.hid (X0.out.trans x1)
      have B1 := Lib.hid (B0.out.ext x1)
      clear x1 y0 y1 y2 y3
      have y0 : w1.cell? ⟨w.heap.size, 0, none⟩ = some (.int .i64 t) := B1.out.cell 0
      go_wp2_with fail
      refine (HAw.out _).mono ?_
      rintro e w2 ⟨rfl, x2⟩
      have X2 := Lib.hid (X1.out.trans x2)
      clear x2
      go_wp2_with fail
      go_ret
      exact ⟨rfl, X2.out⟩
  · have HY := Lib.hid (fun W => few9_no t s l b W hg)
    clear h hg
    go_enter Tryz.func6, Tryz.ntmps6
    go_upto_region 1 with fail
    generalize w.alloc (.cells #[.int .i64 t, .int .i64 s, .int .i64 l, .int .i64 b] 23) = W0 at *
    have y0 : W0.cell? ⟨w.heap.size, 0, none⟩ = some (.int .i64 t) := B0.out.cell 0
    have y1 : W0.cell? ⟨w.heap.size, 1, none⟩ = some (.int .i64 s) := B0.out.cell 1
    have y2 : W0.cell? ⟨w.heap.size, 2, none⟩ = some (.int .i64 l) := B0.out.cell 2
    have y3 : W0.cell? ⟨w.heap.size, 3, none⟩ = some (.int .i64 b) := B0.out.cell 3
    go_wp2_with fail
    refine (HY.out _).mono ?_
    rintro e w1 ⟨rfl, x1⟩
    have X1 := Lib.hid (X0.out.trans x1)
    clear x1 y0 y1 y2 y3
    go_wp2_with fail
    refine (HAw.out _).mono ?_
    rintro e w2 ⟨rfl, x2⟩
    have X2 := Lib.hid (X1.out.trans x2)
    clear x2
    go_wp2_with fail
    go_ret
    exact ⟨rfl, X2.out⟩
theorem arenaAlone_walk (w : World) (t s l b th : Int) :
    Calls Tryz.prog 6 #[.agg #[.int .i64 t, .int .i64 s, .int .i64 l, .int .i64 b], .int .i64 th] w fun e w' => e = .returned (.bool true) ∧ Ext w w' := by
  by_cases h : ¬ GrOk t s l b ∨ th < 0 ∨ t ≤ th
  · exact arenaAlone_no w t s l b th h
  · have hg : GrOk t s l b := Classical.byContradiction (fun c => h (Or.inl c))
    have h1 : ¬ th < 0 := fun c => h (Or.inr (Or.inl c))
    have h2 : ¬ t ≤ th := fun c => h (Or.inr (Or.inr c))
    obtain ⟨⟨q0, q1⟩, ⟨q2, q3⟩, ⟨q4, q5⟩, q6, q7⟩ := id hg.1
    obtain ⟨t', rfl⟩ := Int.eq_ofNat_of_zero_le (show 0 ≤ t by omega)
    obtain ⟨s', rfl⟩ := Int.eq_ofNat_of_zero_le (show 0 ≤ s by omega)
    obtain ⟨l', rfl⟩ := Int.eq_ofNat_of_zero_le (show 0 ≤ l by omega)
    obtain ⟨b', rfl⟩ := Int.eq_ofNat_of_zero_le (show 0 ≤ b by omega)
    obtain ⟨th', rfl⟩ := Int.eq_ofNat_of_zero_le (show 0 ≤ th by omega)
    exact arenaAlone_yes w t' s' l' b' th' hg (by omega)

namespace arenaAlone
set_option maxRecDepth 100000 in
theorem lifted (os : Os) (started : os.Started) (H : Type) (enc : TypeId × Value → H) :
    ReturnsInHanded {} Tryz.checked os 6 .any (Rows.arenaAloneSpec.pre6 enc Tryz.prog Tryz.f6 Rows.arenaAloneRow.domain false) (Rows.arenaAloneSpec.post enc Tryz.prog Tryz.f6 false true false false) := by
  refine returnsInHanded_of_change (C := Tryz.checked) own started (by kernel_rfl) Tryz.func6
    (ChangeSpec.witness6 (enc := enc) (C := Tryz.checked) false ⟨#[], #[.agg #[.int .i64 0, .int .i64 0, .int .i64 0, .int .i64 0], .int .i64 0], []⟩ 8 (by kernel_rfl) (by kernel_rfl) (by kernel_rfl) (by kernel_rfl)) ?_
  intro W base args ds gs before hval0 hW hcnd _
  have hval : ∀ (j : Nat) t v, Tryz.f6.params[j]? = some t → args[j]? = some v → Value.okWide Tryz.prog W .any base t v := hval0
  have hW' := hW
  obtain ⟨p, q, hA0, hV, rfl, hfz, hnd⟩ := hW
  have hA : DataW.TrodAll enc Tryz.prog W 0 (fun _ => true) true Tryz.f6.params.toList args.toList ds p := hA0
  have hlt : ∀ x ∈ p ++ q, x.block < W.heap.size := fun x hx => hW'.lt x hx
  rw [Tryz.params6] at hA hval
  have hB := hA
  obtain ⟨v0, vs0, d0, ds0, p0, q0, hargs, rfl, rfl, h0, r0⟩ := trodAll_cons hB
  obtain ⟨v1, vs1, d1, ds1, p1, q1, rfl, rfl, rfl, h1, r1⟩ := trodAll_cons r0
  obtain ⟨rfl, rfl, rfl⟩ := trodAll_nil r1
  obtain rfl : args = #[v0, v1] := by cases args; simp_all
  obtain ⟨rfl, rfl⟩ := trodVars_none hV
  obtain ⟨x0t, x0s, x0l, x0b, rfl, ok0⟩ := view_cfg Tryz.underlying23 (by kernel_rfl) (by kernel_rfl) Tryz.underlying3 Tryz.underlying3 Tryz.underlying3 Tryz.underlying3 (hval 0 23 v0 rfl rfl) h0
  obtain ⟨a1, rfl, rfl, rfl, w1⟩ := open_int Tryz.underlying3 (hval 1 3 v1 rfl rfl) h1
  clear hA0 hval0
  refine (arenaAlone_walk W x0t x0s x0l x0b a1).mono fun e W' ⟨he, hx⟩ => ?_
  subst he
  exact ⟨_, rfl, post_ext (pv := []) hW' (fun _ _ _ => (trodAll_cons_mk (shut_bool Tryz.underlying4 _) trodAll_mk0)) (fun sp hsp => trodAll_stays laid hx _ _ _ _ (readable_of (by kernel_rfl)) hA (fun x hx => hlt x (by first | (simp at hx ⊢; exact hx) | simp at hx)) (fun x hx => hsp x (by first | (simp at hx ⊢; exact hx) | simp at hx))) (fun _ _ => rfl) rfl hx (ok_one (by kernel_rfl) rfl (okWide_bool_mk Tryz.underlying4 _))⟩

theorem over : Rows.arenaAloneRow.holds Tryz.pinned (OpenSpec.ofChange Rows.arenaAloneSpec) :=
  OpenClaim.holds_of_wide 6 Tryz.f6 rfl rfl rfl rfl rfl rfl rfl ⟨rfl, rfl, rfl, rfl, rfl⟩ rfl rfl rfl rfl rfl (by kernel_rfl) Tryz.func6 arenaAlone_closed
    (of_decide_eq_true (by kernel_rfl)) (by unfold Func.isWrapper; first | (rw [if_pos (by decide +kernel)]; kernel_rfl) | (rw [if_neg (by decide +kernel)]; exact ⟨rfl, rfl⟩))
    (fun os started H enc _ => lifted os started H enc)
end arenaAlone

theorem arenaAlone_holds : Rows.ArenaAloneSaid := arenaAlone.over
end Go.Proofs.YtfjfeomkmhbpbaaGreat

