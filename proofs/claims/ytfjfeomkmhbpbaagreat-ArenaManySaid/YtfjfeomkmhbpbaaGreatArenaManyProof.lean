/- However threads take and give back between one another, each slot is free, or held by one; none is taken only where none was free: the law answers true for every config and picks, and changes nothing. Conditions: none. -/
import Derived.Test.YtfjfeomkmhbpbaaGreatKArF
import Derived.Deep.DeepCutAuto
import Derived.Deep.CutBlock
import Derived.Deep.MidRow
import Derived.Test.YtfjfeomkmhbpbaaGreatKView
import Derived.Test.YtfjfeomkmhbpbaaGreatArgs
import Derived.Test.YtfjfeomkmhbpbaaGreatArenaManyFacts
namespace Go.Proofs.YtfjfeomkmhbpbaaGreat
open Go.ChangeShapes Go.WideShapes Go.ChangeAt Go.RowKit
set_option linter.unusedVariables false

set_option maxRecDepth 100000 in
set_option maxHeartbeats 16000000 in
theorem arenaMany_yes (w : World) (A : Option Addr) (n c : Nat) (t s l b : Nat) (zs : List Int) (hl : zs.length = n) (hn : n ≤ 300) (hA : Ints w .u8 A zs) (hz : Lim zs 256) (hg : GrOk t s l b) :
    Calls Tryz.prog 7 #[.agg #[.int .i64 t, .int .i64 s, .int .i64 l, .int .i64 b], .slice A n c] w fun e w' => e = .returned (.bool true) ∧ Ext w w' := by
  have X0 := Lib.hid ((Ext.refl w).alloc (.cells #[.int .i64 t, .int .i64 s, .int .i64 l, .int .i64 b] 23))
  have B0 := Lib.hid (Blk.new w 23 [.int .i64 t, .int .i64 s, .int .i64 l, .int .i64 b])
  have HY := Lib.hid (fun W => few9_yes t s l b W hg)
  have HAl := Lib.hid (fun W => all_ok W t s l b hg)
  have HAw := Lib.hid (fun W => awake12_ok W)
  have HI := Lib.hid hA
  have HZ := Lib.hid hz
  have HLz := Lib.hid hl
  obtain ⟨hc, h1, h2, h3, h4⟩ := id hg
  obtain ⟨⟨q0, q1⟩, ⟨q2, q3⟩, ⟨q4, q5⟩, q6, q7⟩ := id hc
  have t6 : t ≤ 6 := by omega
  have t1 : 1 ≤ t := by omega
  have s30 : s ≤ 30 := by omega
  have l8 : l ≤ 8 := by omega
  have l1 : 1 ≤ l := by omega
  have HLa := Lib.hid (fun (W : World) (A : Option Addr) (c : Nat) (h : PutsAt W A (rowPs (layF t s l b) (upN s) s)) => lay_ok W A s c t s l b (rowPs (layF t s l b) (upN s) s) hg (rowPs_len _ _ _) (by omega) h)
  have HOk := Lib.hid (okayF hc)
  have HFe : Hid (FewC t s l b) := Lib.hid ⟨by omega, by omega, by omega, by omega, by omega⟩
  have HSt := Lib.hid (fun (hs : List AHd) => manyA_start (t := t) (s := s) (l := l) (b := b) (hs := hs) ⟨by omega, by omega, by omega, by omega, by omega⟩)
  have HFi := Lib.hid (ground_fine t s l b (rowPs (layF t s l b) (upN s) s))
  have HCa := Lib.hid (ground_calm t s l b (rowPs (layF t s l b) (upN s) s) (by rw [rowPs_len]; omega))
  have HN48 : Hid (wN t s l b ≤ 60) := Lib.hid (wN_le (by omega) (by omega) (by omega) (by omega))
  have HmkV := made_hands12 t
  have hmk := fun W => make_hands12 t (by omega) W
  have HMd := Lib.hid HmkV
  generalize madeCells #[.pointer none, .pointer none] (t * 2) = MW at *
  have d300 : decide (300 < n) = false := by simp; omega
  have d300' : decide ((300 : Int) < (n : Int)) = false := by simp; omega
  clear hg hc h1 h2 h3 h4 q0 q1 q2 q3 q4 q5 q6 q7 HmkV hA hz hl
  go_enter Tryz.func7, Tryz.ntmps7
  go_upto_region 1 with fail
  generalize w.alloc (.cells #[.int .i64 t, .int .i64 s, .int .i64 l, .int .i64 b] 23) = W0 at *
  have y0 : W0.cell? ⟨w.heap.size, 0, none⟩ = some (.int .i64 t) := B0.out.cell 0
  have y1 : W0.cell? ⟨w.heap.size, 1, none⟩ = some (.int .i64 s) := B0.out.cell 1
  have y2 : W0.cell? ⟨w.heap.size, 2, none⟩ = some (.int .i64 l) := B0.out.cell 2
  have y3 : W0.cell? ⟨w.heap.size, 3, none⟩ = some (.int .i64 b) := B0.out.cell 3
  go_wp2_with fail
  refine (HY.out _).mono ?_
  rintro e w1 ⟨rfl, x1⟩
  have X1 := Lib.hid (X0.out.trans x1)
  have B1 := Lib.hid (B0.out.ext x1)
  clear x1 y0 y1 y2 y3 X0 B0 HY
  have y0 : w1.cell? ⟨w.heap.size, 0, none⟩ = some (.int .i64 t) := B1.out.cell 0
  have y1 : w1.cell? ⟨w.heap.size, 1, none⟩ = some (.int .i64 s) := B1.out.cell 1
  have y2 : w1.cell? ⟨w.heap.size, 2, none⟩ = some (.int .i64 l) := B1.out.cell 2
  have y3 : w1.cell? ⟨w.heap.size, 3, none⟩ = some (.int .i64 b) := B1.out.cell 3
  go_wp2_with fail
  refine (HAl.out _).mono ?_
  rintro e w2 ⟨A2, c2, rfl, hp, x2⟩
  have HL2 := Lib.hid (HLa.out w2 A2 c2 hp)
  have X2 := Lib.hid (X1.out.trans x2)
  have B2 := Lib.hid (B1.out.ext x2)
  clear hp x2 HAl HLa X1 B1 y0 y1 y2 y3
  go_wp2_with fail
  refine HL2.out.mono ?_
  rintro e w3 ⟨gl, gm, dv, pv, g, R, rv, rfl, bl, gr⟩
  obtain ⟨s0, hs0⟩ : ∃ s0, groundSt t s l b (rowPs (layF t s l b) (upN s) s) = s0 := ⟨_, rfl⟩
  rw [hs0] at gr HSt HFi HCa
  have B3 := Lib.hid (B2.out.ext gr.mem.lt.1)
  have BL := Lib.hid bl
  have M3 := Lib.hid gr.mem
  clear bl gr hs0 HL2 d300 d300'
  have y0 : w3.cell? ⟨w.heap.size, 0, none⟩ = some (.int .i64 t) := B3.out.cell 0
  have y1 : w3.cell? ⟨w.heap.size, 1, none⟩ = some (.int .i64 s) := B3.out.cell 1
  have y2 : w3.cell? ⟨w.heap.size, 2, none⟩ = some (.int .i64 l) := B3.out.cell 2
  have y3 : w3.cell? ⟨w.heap.size, 3, none⟩ = some (.int .i64 b) := B3.out.cell 3
  go_upto_block 0 with fail
  have x4 := (Ext.refl w3).alloc (.cells MW 96)
  have A4 : Hid (AMAt w2 (w3.alloc (.cells MW 96)) gm dv pv gl w3.heap.size (layF t s l b) ((List.replicate t AHd.idle).map AHd.cells) (List.replicate t AHd.idle) s0) := Lib.hid (by
    have hbl := BL.out.lt
    have bh := Blk.new w3 96 ((List.replicate t AHd.idle).map AHd.cells).flatten
    rw [← HMd.out] at bh
    have no : ∀ (i : Nat) (x : AHd) (q : Nat), (List.replicate t AHd.idle)[i]? = some x → ¬ x.ownB q := fun i x q e => by
      rw [List.getElem?_replicate] at e
      split at e
      · injection e with e
        rw [← e]
        exact id
      · cases e
    refine ⟨M3.out.hold x4 (fun q hq => ?_), BL.out.ext x4, bh, fun i x e => ?_, fun i x q e hq => absurd hq (no i x q e), fun i j x y q e _ hq => absurd hq (no i x q e), by omega, M3.out.lt.1.size⟩
    · rcases hq with e | e | ⟨i, x, e, hx⟩
      · rw [e]; exact ⟨by simp; omega, Or.inl (Or.inr rfl)⟩
      · rw [e]; exact ⟨by simp, Or.inr (Nat.le_refl _)⟩
      · exact absurd hx (no i x q e)
    · rw [List.getElem?_replicate] at e
      split at e
      · injection e with e
        rw [← e]
        trivial
      · cases e)
  generalize w3.alloc (.cells MW 96) = w4 at *
  generalize w3.heap.size = gh at *
  have XW2 := Lib.hid X2.out
  clear x4 hmk HMd y0 y1 y2 y3 B3 BL M3 X2
  go_wp2_with fail
  go_loopw [10] (fun i wr => ∃ (k : Nat) (hs : List AHd), k ≤ t ∧ i = .int .i64 k ∧ hs.length = t ∧ (∀ j, j < k → ∃ gt gu, hs[j]? = some (.take gt (newTk gu))) ∧ (∀ j, k ≤ j → j < t → hs[j]? = some .idle) ∧ AMAt w2 wr gm dv pv gl gh (layF t s l b) (hs.map AHd.cells) hs s0) (fun i _ => t - (intOf i).toNat)
  case atStart => exact ⟨0, _, Nat.zero_le _, rfl, List.length_replicate .., fun j hj => absurd hj (by omega), fun j _ hj => by rw [List.getElem?_replicate, if_pos hj], A4.out⟩
  case round =>
    obtain ⟨k, hs, hk, rfl, hlen, h1, h2, ha⟩ := hrel
    have HA := Lib.hid ha
    have H1 := Lib.hid h1
    have H2 := Lib.hid h2
    have HLn := Lib.hid hlen
    have BC := Lib.hid (B2.out.ext ha.m.lt.1)
    clear ha h1 h2 hlen A4
    have y0 : wr.cell? ⟨w.heap.size, 0, none⟩ = some (.int .i64 t) := BC.out.cell 0
    have y1 : wr.cell? ⟨w.heap.size, 1, none⟩ = some (.int .i64 s) := BC.out.cell 1
    have y2 : wr.cell? ⟨w.heap.size, 2, none⟩ = some (.int .i64 l) := BC.out.cell 2
    have y3 : wr.cell? ⟨w.heap.size, 3, none⟩ = some (.int .i64 b) := BC.out.cell 3
    by_cases hlt : k < t
    · have v1 : decide (k < t) = true := by simp; omega
      have v1' : decide ((k : Int) < (t : Int)) = true := by simp; omega
      go_wp2_with fail
      refine (newTake_ok wr gl (k : Int)).mono ?_
      rintro e w6 ⟨g6, u6, rfl, l6, m6, b6, c6, x6⟩
      have H6 := HA.out.new x6 (i := k) (h' := .take g6 (newTk u6)) (by rw [HLn.out]; exact hlt) ⟨b6, c6, (fun q e => by cases e), (fun q e => by cases e), (fun q p e => by cases e)⟩ (fun q hq => by
        have h1 := b6.lt
        have h2 := c6.lt
        rcases hq with e | e | ⟨q', e, _⟩ | ⟨q', e, _⟩
        · omega
        · have e2 : q = u6 := e
          omega
        · cases e
        · cases e)
      have ei := H2.out k (Nat.le_refl k) hlt
      have er : (hs.map AHd.cells)[k]? = some [.pointer none, .pointer none] := by rw [List.getElem?_map, ei]; rfl
      have HTh : Hid (w6.there gh (k * 2) 2) := Lib.hid (fun i hi => by
        have hc := H6.h.cell (k * 2 + i)
        rw [flat2 (rowsA_len hs) hi er] at hc
        refine ⟨?_, H6.h.frozen _⟩
        rw [hc]
        have hi2 : i = 0 ∨ i = 1 := by omega
        rcases hi2 with rfl | rfl <;> rfl)
      have H7 := (H6.put (rowsA_len hs) (f := 0) (by decide) er (.pointer (some ⟨g6, 0, none⟩)))
      have H8 := H7.put (f := 1) (set_len2 (rowsA_len hs) rfl) (by decide) (i := k) (r := [.pointer (some ⟨g6, 0, none⟩), .pointer none]) (by rw [set_get _ _ _ _ (by rw [List.length_map, HLn.out]; exact hlt), if_pos rfl]; rfl) (.pointer none)
      have HN : Hid (AMAt w2 ((w6.setCell ⟨gh, k * 2 + 0, none⟩ (.pointer (some ⟨g6, 0, none⟩))).setCell ⟨gh, k * 2 + 1, none⟩ (.pointer none)) gm dv pv gl gh (layF t s l b) ((hs.set k (.take g6 (newTk u6))).map AHd.cells) (hs.set k (.take g6 (newTk u6))) s0) := Lib.hid (by
        have e : (((hs.map AHd.cells).set k ([Value.pointer none, Value.pointer none].set 0 (.pointer (some ⟨g6, 0, none⟩)))).set k ([Value.pointer (some ⟨g6, 0, none⟩), Value.pointer none].set 1 (.pointer none))) = (hs.set k (.take g6 (newTk u6))).map AHd.cells := by
          rw [List.set_set, List.map_set]
          rfl
        rw [← e]
        exact H8)
      have HN1 : Hid (∀ j, j < k + 1 → ∃ gt gu, (hs.set k (.take g6 (newTk u6)))[j]? = some (.take gt (newTk gu))) := Lib.hid (fun j hj => by
        rw [set_get _ _ _ _ (by rw [HLn.out]; exact hlt)]
        by_cases e : j = k
        · rw [if_pos e]; exact ⟨_, _, rfl⟩
        · rw [if_neg e]; exact H1.out j (by omega))
      have HN2 : Hid (∀ j, k + 1 ≤ j → j < t → (hs.set k (.take g6 (newTk u6)))[j]? = some .idle) := Lib.hid (fun j hj hj2 => by
        rw [set_get _ _ _ _ (by rw [HLn.out]; exact hlt), if_neg (by omega)]
        exact H2.out j (by omega) hj2)
      have HN3 : Hid ((hs.set k (.take g6 (newTk u6))).length = t) := Lib.hid (by rw [List.length_set]; exact HLn.out)
      clear H6 H7 H8 l6 m6 b6 c6 x6 HA BC y0 y1 y2 y3 er ei
      go_wp2_with ((with_reducible refine (id ?_ : wpList _ _ _ ({ dst := none, op := Op.store _ _ _, type := _, pos := _, after := _, guard := _ } :: _) _ _)); refine Hid.out ?_)
      refine Lib.hid ?_
      refine wpList_store_mid rfl _ (.tmp 49) (.tmp 48) rfl gh (k * 2) #[.pointer (some ⟨g6, 0, none⟩), .pointer none] (by rfl) (by rfl) HTh.out (by kernel_rfl) (by simp [Value.oneCell']) ?_
      go_wp2_with fail
      go_roundw
      case rel => exact ⟨k + 1, _, by omega, by go_num, HN3.out, HN1.out, HN2.out, HN.out⟩
      case measure => simp [intOf]; omega
    · obtain rfl : k = t := by omega
      have v1 : decide (k < k) = false := by simp
      have v1' : decide ((k : Int) < (k : Int)) = false := by simp
      have F0 := Lib.hid (HSt.out hs HLn.out H1.out)
      clear H1 H2 HSt
      go_wp2_with fail
      clear BC y0 y1 y2 y3
      generalize wr = w5 at *
      go_loopw [11] (fun i wr => ∃ (j : Nat) (hs : List AHd) (L : List Int) (sk : MSt), j ≤ n ∧ i = .int .i64 j ∧ hs.length = k ∧ AMAt w2 wr gm dv pv gl gh (layF k s l b) (hs.map AHd.cells) hs sk ∧ FMA k s l b j hs L sk ∧ Fine j sk.dev ∧ CalmN (100 + (j : Int)) sk) (fun i _ => n - (intOf i).toNat)
      case atStart => exact ⟨0, hs, _, s0, Nat.zero_le _, rfl, HLn.out, HA.out, F0.out, HFi.out, by simpa using HCa.out⟩
      case round =>
        clear HA F0 HFi HCa HLn
        obtain ⟨j, hs, L, sk, hj, rfl, hlen, ha, fm, fi, ca⟩ := hrel
        have HA := Lib.hid ha
        have HM := Lib.hid fm
        have HF := Lib.hid fi
        have HC := Lib.hid ca
        have HLn := Lib.hid hlen
        have HB := Lib.hid (B2.out.ext ha.m.lt.1)
        have XK := Lib.hid (XW2.out.trans ha.m.lt.1)
        clear ha fm fi ca hlen
        by_cases hlt : j < n
        · have v2 : decide (j < n) = true := by simp; omega
          have v2' : decide ((j : Int) < (n : Int)) = true := by simp; omega
          obtain ⟨ad, hAd, _, hcc⟩ := (HI.out.ext XK.out) (by have := HLz.out; omega)
          have p0 := hcc j (by have := HLz.out; omega)
          have zr := HZ.out j (by have := HLz.out; omega)
          generalize zs.getD j 0 = z at *
          obtain ⟨zn, rfl⟩ := Int.eq_ofNat_of_zero_le zr.1
          subst hAd
          clear hcc
          have y0 : wr.cell? ⟨w.heap.size, 0, none⟩ = some (.int .i64 k) := HB.out.cell 0
          have y1 : wr.cell? ⟨w.heap.size, 1, none⟩ = some (.int .i64 s) := HB.out.cell 1
          have y2 : wr.cell? ⟨w.heap.size, 2, none⟩ = some (.int .i64 l) := HB.out.cell 2
          have y3 : wr.cell? ⟨w.heap.size, 3, none⟩ = some (.int .i64 b) := HB.out.cell 3
          obtain ⟨tt, htt⟩ : ∃ tt, zn % k = tt := ⟨_, rfl⟩
          have hm0 : ((zn : Int)).tmod (k : Int) = (tt : Int) := by
            rw [Int.tmod_eq_emod_of_nonneg (by omega), ← htt]
            rfl
          have htl : tt < k := by rw [← htt]; exact Nat.mod_lt _ (by omega)
          have ht0 : ((k : Int) == 0) = false := by rw [beq_eq_false_iff_ne]; omega
          have ht0' : ¬ (k : Int) = 0 := by omega
          clear htt
          go_wp2_with fail
          go_quiet (fail)
          go_upto_region 13 with fail
          have xq := ext_drewN (Ext.refl wr) nq
          have HAq := Lib.hid (HA.out.ext xq)
          have HBq := Lib.hid (HB.out.ext xq)
          clear xq HA XK HB p0 y0 y1 y2 y3 hm0 v2 v2'
          generalize wr.drewN nq = wq at *
          obtain ⟨h0, e0⟩ : ∃ h0, hs[tt]? = some h0 := ⟨hs[tt]'(by rw [HLn.out]; exact htl), List.getElem?_eq_getElem _⟩
          have hlt2 : tt < hs.length := by rw [HLn.out]; exact htl
          have er : (hs.map AHd.cells)[tt]? = some h0.cells := by rw [List.getElem?_map, e0]; rfl
          have hU := fun a => HAq.out.m.peekU a
          have hok := HM.out.ok tt h0 e0
          have HTK : Hid (tt < k) := Lib.hid htl
          cases h0 with
          | idle => exact hok.elim
          | take gt x =>
            have tkq := HAq.out.toTk e0
            have HSt := Lib.hid (takeStep_ok (L := l) (T := k) (i := j) (n := 100 + (j : Int)) tkq (HC.out.calm (by omega)) (by omega) HF.out HOk.out rfl rfl rfl (by omega) rfl (by omega) (by omega) hU HC.out hok.1 HAq.out.l (Or.inr (Or.inr (Or.inl rfl))) (Or.inl rfl) (HAq.out.o tt _ gt e0 (Or.inl rfl)).2.2)
            have HTkL := Lib.hid (fun n1 n2 => HM.out.take (n1 := n1) (n2 := n2) HFe.out (by omega) hU HC.out e0 htl)
            have HWf := Lib.hid (fun n1 n2 => tkS_wf (F := layF k s l b) (T := k) (L := l) (t := (tt : Int)) (n1 := n1) (n2 := n2) rfl (by omega) hU hok.1 HC.out)
            have HFn := Lib.hid (fun n1 n2 => tkS_fine9 (F := layF k s l b) (T := k) (t := (tt : Int)) (x := x) (n1 := n1) (n2 := n2) HF.out (by rw [HM.out.fm.ok.n]; have := HN48.out; omega))
            have c0 : wq.cell? ⟨gh, tt * 2, none⟩ = some (.pointer (some ⟨gt, 0, none⟩)) := by
              have := HAq.out.h.cell (tt * 2 + 0)
              rw [flat2 (rowsA_len hs) (by decide) er] at this
              exact this
            have E0 := Lib.hid e0
            have ER := Lib.hid er
            clear tkq hok hU er e0 HM HF HC htl
            go_wp2_with fail
            refine HSt.out.mono ?_
            rintro e w8 ⟨n1, n2, rfl, t8, k8⟩
            have M8 := Lib.hid (HAq.out.ofTk E0.out t8 k8)
            have T8 := Lib.hid t8
            have TL := Lib.hid (HTkL.out n1 n2)
            have WF := Lib.hid (HWf.out n1 n2)
            have FN2 := Lib.hid (HFn.out n1 n2)
            have HB8 := Lib.hid (B2.out.ext M8.out.m.lt.1)
            clear t8 k8 HSt HTkL HWf HFn c0 HAq HBq
            generalize tkS (layF k s l b) k (tt : Int) x sk n1 n2 = p at *
            obtain ⟨x', s'⟩ := p
            have er8 : ((hs.set tt (.take gt x')).map AHd.cells) = hs.map AHd.cells := rows_same E0.out rfl
            have ei8 : (hs.set tt (.take gt x'))[tt]? = some (.take gt x') := by rw [set_get _ _ _ _ hlt2, if_pos rfl]
            have c0 : w8.cell? ⟨gh, tt * 2, none⟩ = some (.pointer (some ⟨gt, 0, none⟩)) := by
              have := M8.out.h.cell (tt * 2 + 0)
              rw [flat2 (rowsA_len hs) (by decide) ER.out] at this
              exact this
            have c1 : w8.cell? ⟨gh, tt * 2 + 1, none⟩ = some (.pointer none) := by
              have := M8.out.h.cell (tt * 2 + 1)
              rw [flat2 (rowsA_len hs) (by decide) ER.out] at this
              exact this
            go_upto_if 79 with fail
            go_cut [12] (fun s12 wx => s12 = .int .i64 (tt : Int) ∧ ∃ (hs' : List AHd) (L' : List Int) (sk' : MSt), hs'.length = k ∧ AMAt w2 wx gm dv pv gl gh (layF k s l b) (hs'.map AHd.cells) hs' sk' ∧ FMA k s l b (j + 1) hs' L' sk' ∧ Fine (j + 1) sk'.dev ∧ CalmN (100 + (j : Int) + 1) sk')
            case first =>
              by_cases hp0 : x'.part = 0
              · have dp : decide (x'.part = 0) = true := by simpa using hp0
                simp only [dp]
                rcases TL.out.2 hp0 with ⟨e1, e2, e3, fmn⟩ | ⟨a, L', ea, a0, a1, fmg⟩
                · -- none
                  have HFr : Hid (Calls Tryz.prog 43 #[.pointer (some ⟨gl, 0, none⟩), .pointer (some ⟨gm, 0, none⟩)] w8 fun e w' => ∃ va, e = .returned (.tuple #[va, .bool true]) ∧ Row w' w8.heap.size 3 .i64 va [] ∧ Ext w8 w') := Lib.hid (by
                    have h := freeList_ok M8.out.m HOk.out M8.out.l rfl s rfl (by omega)
                    rw [(fmn 0 0).fm.list] at h
                    exact h)
                  have HSl : Hid (∀ W, Ext w8 W → Calls Tryz.prog 31 #[.pointer (some ⟨gt, 0, none⟩)] W fun e w' => e = .returned (.int .i64 (-1)) ∧ Ext W w') := Lib.hid (fun W xw => by
                    have h := tkSlot_ok (T8.out.ext xw) WF.out.1
                    rw [if_pos hp0, e1] at h
                    exact h)
                  have HEm : Hid (∀ W, Ext w8 W → Calls Tryz.prog 34 #[.pointer (some ⟨gt, 0, none⟩)] W fun e w' => e = .returned (.int .i64 s'.clock) ∧ W = w') := Lib.hid (fun W xw => by
                    have h := tkEmpty_ok (T8.out.ext xw)
                    simp only at e2 e3
                    rw [e2, if_pos rfl, e3] at h
                    exact h)
                  have HCk : Hid (∀ W, Ext w8 W → Calls Tryz.prog 42 #[.pointer (some ⟨gm, 0, none⟩)] W fun e w' => e = .returned (.int .i64 s'.clock) ∧ W = w') := Lib.hid (fun W xw => memClock_ok (M8.out.m.ext xw))
                  have FMN := Lib.hid fmn
                  obtain ⟨cl, hcl⟩ : ∃ cl, s'.clock = cl := ⟨_, rfl⟩
                  rw [hcl] at HEm HCk
                  have dcl : (cl != cl) = false := by simp
                  clear fmn e1 e2 e3 hcl TL T8
                  go_wp2_with fail
                  refine HFr.out.mono ?_
                  rintro e w9 ⟨va, rfl, ra, x9⟩
                  obtain ⟨Aa, ca, rfl, ia, hbig⟩ := row_atB ra
                  have X9 := Lib.hid x9
                  have c0 : w9.cell? ⟨gh, tt * 2, none⟩ = some (.pointer (some ⟨gt, 0, none⟩)) := cellE c0 x9
                  clear ra ia hbig x9 HFr
                  go_wp2_with fail
                  refine (HSl.out _ X9.out).mono ?_
                  rintro e w10 ⟨rfl, x10⟩
                  have c0 : w10.cell? ⟨gh, tt * 2, none⟩ = some (.pointer (some ⟨gt, 0, none⟩)) := cellE c0 x10
                  replace X9 := Lib.hid (X9.out.trans x10)
                  clear x10 HSl
                  go_wp2_with fail
                  refine (HEm.out _ X9.out).mono ?_
                  rintro e w' ⟨rfl, rfl⟩
                  go_wp2_with fail
                  refine (HCk.out _ X9.out).mono ?_
                  rintro e w' ⟨rfl, rfl⟩
                  go_wp2_with fail
                  refine (newTake_ok w10 gl (tt : Int)).mono ?_
                  rintro e w11 ⟨g6, u6, rfl, l6, m6, b6, c6, x6⟩
                  have N11 := (M8.out.ext X9.out).new x6 (i := tt) (h' := .take g6 (newTk u6)) (by rw [List.length_set]; exact hlt2) ⟨b6, c6, (fun q e => by cases e), (fun q e => by cases e), (fun q p e => by cases e)⟩ (fun q hq => by
                    have h1 := b6.lt
                    have h2 := c6.lt
                    rcases hq with e | e | ⟨q', e, _⟩ | ⟨q', e, _⟩
                    · omega
                    · have e2 : q = u6 := e
                      omega
                    · cases e
                    · cases e)
                  rw [List.set_set] at N11
                  have HN11 := Lib.hid (N11.put (rowsA_len hs) (f := 0) (by decide) ER.out (.pointer (some ⟨g6, 0, none⟩)))
                  have k0 : w11.cell? ⟨gh, tt * 2, none⟩ = some (.pointer (some ⟨gt, 0, none⟩)) := cellE c0 x6
                  have f0 : w11.frozen? ⟨gh, tt * 2, none⟩ = false := N11.h.frozen _
                  have HNF : Hid (AMAt w2 (w11.setCell ⟨gh, tt * 2, none⟩ (.pointer (some ⟨g6, 0, none⟩))) gm dv pv gl gh (layF k s l b) ((hs.set tt (.take g6 (newTk u6))).map AHd.cells) (hs.set tt (.take g6 (newTk u6))) s') := Lib.hid (by
                    have e : (hs.map AHd.cells).set tt ((AHd.take gt x).cells.set 0 (.pointer (some ⟨g6, 0, none⟩))) = (hs.set tt (.take g6 (newTk u6))).map AHd.cells := by
                      rw [List.map_set]
                      rfl
                    rw [← e]
                    exact HN11.out)
                  clear N11 HN11 l6 m6 b6 c6 x6 c0
                  go_wp2_with fail
                  go_meet
                  exact ⟨rfl, _, _, _, by rw [List.length_set]; exact HLn.out, HNF.out, FMN.out g6 u6, FN2.out, WF.out.2⟩
                · -- a slot
                  have HFr : Hid (Calls Tryz.prog 43 #[.pointer (some ⟨gl, 0, none⟩), .pointer (some ⟨gm, 0, none⟩)] w8 fun e w' => ∃ va, e = .returned (.tuple #[va, .bool true]) ∧ Row w' w8.heap.size 3 .i64 va L' ∧ Ext w8 w') := Lib.hid (by
                    have h := freeList_ok M8.out.m HOk.out M8.out.l rfl s rfl (by omega)
                    rw [(fmg 0 0).fm.list] at h
                    exact h)
                  have HSl : Hid (∀ W, Ext w8 W → Calls Tryz.prog 31 #[.pointer (some ⟨gt, 0, none⟩)] W fun e w' => e = .returned (.int .i64 a) ∧ Ext W w') := Lib.hid (fun W xw => by
                    have h := tkSlot_ok (T8.out.ext xw) WF.out.1
                    rw [if_pos hp0, ea] at h
                    exact h)
                  have FMG := Lib.hid fmg
                  have da : (a == -1) = false := by rw [beq_eq_false_iff_ne]; omega
                  have da' : (a != -1) = true := by rw [bne_iff_ne]; omega
                  have da2 : decide (a = -1) = false := by simp; omega
                  clear fmg ea TL T8
                  go_wp2_with fail
                  refine HFr.out.mono ?_
                  rintro e w9 ⟨va, rfl, ra, x9⟩
                  obtain ⟨Aa, ca, rfl, ia, hbig⟩ := row_atB ra
                  have X9 := Lib.hid x9
                  have c0 : w9.cell? ⟨gh, tt * 2, none⟩ = some (.pointer (some ⟨gt, 0, none⟩)) := cellE c0 x9
                  clear ra ia x9 HFr
                  go_wp2_with fail
                  refine (HSl.out _ X9.out).mono ?_
                  rintro e w10 ⟨rfl, x10⟩
                  have c0 : w10.cell? ⟨gh, tt * 2, none⟩ = some (.pointer (some ⟨gt, 0, none⟩)) := cellE c0 x10
                  replace X9 := Lib.hid (X9.out.trans x10)
                  clear x10 HSl
                  have M10 := Lib.hid (M8.out.ext X9.out)
                  have f0 : w10.frozen? ⟨gh, tt * 2, none⟩ = false := M10.out.h.frozen _
                  have P10 := Lib.hid (M10.out.put (rowsA_len hs) (f := 0) (by decide) ER.out (.pointer none))
                  clear M10 c1
                  go_upto_region 21 with fail
                  change Code.wp _ _ _ _ (w10.setCell ⟨gh, tt * 2 + 0, none⟩ (.pointer none))
                  generalize w10.setCell ⟨gh, tt * 2 + 0, none⟩ (.pointer none) = w11 at *
                  clear c0 f0
                  go_wp2_with fail
                  refine (newGive_ok w11 gl (tt : Int) a).mono ?_
                  rintro e w12 ⟨g6, u6, rfl, l6, m6, b6, c6, x6⟩
                  have N12 := P10.out.new x6 (i := tt) (h' := .give g6 u6 ⟨false, ⟨0, 0, a, false⟩⟩ a) (by rw [List.length_set]; exact hlt2) ⟨b6, c6⟩ (fun q hq => by
                    have h1 := b6.lt
                    have h2 := c6.lt
                    rcases hq with e | e
                    · omega
                    · omega)
                  rw [List.set_set] at N12
                  have er9 : ((hs.map AHd.cells).set tt ((AHd.take gt x).cells.set 0 (.pointer none)))[tt]? = some [.pointer none, .pointer none] := by rw [set_get _ _ _ _ (by rw [List.length_map]; exact hlt2), if_pos rfl]; rfl
                  have hl9 := set_len2 (i := tt) (r := (AHd.take gt x).cells.set 0 (.pointer none)) (rowsA_len hs) rfl
                  have k1 : w12.cell? ⟨gh, tt * 2 + 1, none⟩ = some (.pointer none) := by
                    have := N12.h.cell (tt * 2 + 1)
                    rw [flat2 hl9 (by decide) er9] at this
                    exact this
                  have f1 : w12.frozen? ⟨gh, tt * 2 + 1, none⟩ = false := N12.h.frozen _
                  have HN12 := Lib.hid (N12.put hl9 (f := 1) (by decide) er9 (.pointer (some ⟨g6, 0, none⟩)))
                  have HNF : Hid (AMAt w2 (w12.setCell ⟨gh, tt * 2 + 1, none⟩ (.pointer (some ⟨g6, 0, none⟩))) gm dv pv gl gh (layF k s l b) ((hs.set tt (.give g6 u6 ⟨false, ⟨0, 0, a, false⟩⟩ a)).map AHd.cells) (hs.set tt (.give g6 u6 ⟨false, ⟨0, 0, a, false⟩⟩ a)) s') := Lib.hid (by
                    have e : ((hs.map AHd.cells).set tt ((AHd.take gt x).cells.set 0 (.pointer none))).set tt ([Value.pointer none, Value.pointer none].set 1 (.pointer (some ⟨g6, 0, none⟩))) = (hs.set tt (.give g6 u6 ⟨false, ⟨0, 0, a, false⟩⟩ a)).map AHd.cells := by
                      rw [List.set_set, List.map_set]
                      rfl
                    rw [← e]
                    exact HN12.out)
                  clear N12 HN12 l6 m6 b6 c6 x6 er9 hl9
                  go_wp2_with fail
                  go_meet
                  exact ⟨rfl, _, _, _, by rw [List.length_set]; exact HLn.out, HNF.out, FMG.out g6 u6, FN2.out, WF.out.2⟩
              · have dp : decide (x'.part = 0) = false := by simpa using hp0
                simp only [dp]
                obtain ⟨L', fm'⟩ := TL.out.1 hp0
                have FM' := Lib.hid fm'
                have MF : Hid (AMAt w2 w8 gm dv pv gl gh (layF k s l b) ((hs.set tt (.take gt x')).map AHd.cells) (hs.set tt (.take gt x')) s') := Lib.hid (by rw [er8]; exact M8.out)
                clear fm' TL T8 c1
                go_wp2_with fail
                go_meet
                exact ⟨rfl, _, _, _, by rw [List.length_set]; exact HLn.out, MF.out, FM'.out, FN2.out, WF.out.2⟩
            case rest =>
              obtain ⟨rfl, hs', L', sk', hl', am', fm', fi', ca'⟩ := hcut
              generalize wc = w9 at *
              have AM := Lib.hid am'
              have FM' := Lib.hid fm'
              have FI := Lib.hid fi'
              have CA' := Lib.hid ca'
              have HL' := Lib.hid hl'
              have HB9 := Lib.hid (B2.out.ext am'.m.lt.1)
              have HOn := Lib.hid (onceA_ok am' fm' hl' (by omega) s30 HOk.out)
              clear am' fm' fi' ca' hl'
              have y0 : w9.cell? ⟨w.heap.size, 0, none⟩ = some (.int .i64 k) := HB9.out.cell 0
              have y1 : w9.cell? ⟨w.heap.size, 1, none⟩ = some (.int .i64 s) := HB9.out.cell 1
              have y2 : w9.cell? ⟨w.heap.size, 2, none⟩ = some (.int .i64 l) := HB9.out.cell 2
              have y3 : w9.cell? ⟨w.heap.size, 3, none⟩ = some (.int .i64 b) := HB9.out.cell 3
              go_wp2_with fail
              refine HOn.out.mono ?_
              rintro e w10 ⟨rfl, x10⟩
              have AM10 := Lib.hid (AM.out.ext x10)
              clear x10 HOn AM HB9 y0 y1 y2 y3
              go_wp2_with fail
              go_roundw
              case rel => exact ⟨j + 1, hs', L', sk', by omega, by go_num, HL'.out, AM10.out, FM'.out, FI.out, by rw [show (100 : Int) + ((j + 1 : Nat) : Int) = 100 + (j : Int) + 1 by omega]; exact CA'.out⟩
              case measure => simp [intOf]; omega
          | give gg gu x a =>
            have hat := HAq.out.a tt _ e0
            have nlg : gl ≠ gg := fun e => (HAq.out.o tt _ gg e0 (Or.inl rfl)).1 e.symm
            have HSt := Lib.hid (giveStep_ok HAq.out.m (HC.out.calm (by omega)) HOk.out rfl hok.1 hat.1 hat.2 HAq.out.l (Or.inr (Or.inr ⟨tt, _, e0, Or.inl rfl⟩)) (Or.inr (Or.inr ⟨tt, _, e0, Or.inr rfl⟩)) (Or.inl rfl) (HAq.out.o tt _ gg e0 (Or.inl rfl)).2.2 (HAq.out.o tt _ gu e0 (Or.inr rfl)).2.2 (hat.2.ne hat.1 (by decide)) nlg)
            have HGL := Lib.hid (HM.out.give HFe.out (by omega) hU HC.out e0 htl)
            have HWf := Lib.hid (gvS_calm (F := layF k s l b) (t := (tt : Int)) (x := x) hU hok.1 HC.out)
            have HFn := Lib.hid (gvS_fine9 (F := layF k s l b) (t := (tt : Int)) (x := x) HF.out (by rw [HM.out.fm.ok.n]; have := HN48.out; omega))
            have c0 : wq.cell? ⟨gh, tt * 2, none⟩ = some (.pointer none) := by
              have := HAq.out.h.cell (tt * 2 + 0)
              rw [flat2 (rowsA_len hs) (by decide) er] at this
              exact this
            have c1 : wq.cell? ⟨gh, tt * 2 + 1, none⟩ = some (.pointer (some ⟨gg, 0, none⟩)) := by
              have := HAq.out.h.cell (tt * 2 + 1)
              rw [flat2 (rowsA_len hs) (by decide) er] at this
              exact this
            have E0 := Lib.hid e0
            have ER := Lib.hid er
            clear hat nlg hok hU er e0 HM HF HC htl
            go_upto_if 79 with fail
            go_cut [12] (fun s12 wx => s12 = .int .i64 (tt : Int) ∧ ∃ (hs' : List AHd) (L' : List Int) (sk' : MSt), hs'.length = k ∧ AMAt w2 wx gm dv pv gl gh (layF k s l b) (hs'.map AHd.cells) hs' sk' ∧ FMA k s l b (j + 1) hs' L' sk' ∧ Fine (j + 1) sk'.dev ∧ CalmN (100 + (j : Int) + 1) sk')
            case first =>
              go_wp2_with fail
              refine HSt.out.mono ?_
              rintro e w8 ⟨rfl, m8, b8, u8, k8⟩
              generalize gvS (layF k s l b) (tt : Int) x sk = p at *
              obtain ⟨x', s'⟩ := p
              have M8 := Lib.hid (HAq.out.ofGive (x' := x') E0.out m8 b8 u8 k8)
              clear m8 b8 u8 k8 HSt c0 c1 HAq HBq
              have er8 : ((hs.set tt (.give gg gu x' a)).map AHd.cells) = hs.map AHd.cells := rows_same E0.out rfl
              cases hd : x'.push.dn
              · have FM' := Lib.hid (HGL.out.1 hd)
                have MF : Hid (AMAt w2 w8 gm dv pv gl gh (layF k s l b) ((hs.set tt (.give gg gu x' a)).map AHd.cells) (hs.set tt (.give gg gu x' a)) s') := Lib.hid (by rw [er8]; exact M8.out)
                simp only
                clear HGL hd
                go_wp2_with fail
                go_meet
                exact ⟨rfl, _, _, _, by rw [List.length_set]; exact HLn.out, MF.out, FM'.out, HFn.out, HWf.out⟩
              · obtain ⟨L', fm'⟩ := HGL.out.2 hd
                have FM' := Lib.hid fm'
                simp only
                clear HGL hd fm'
                go_wp2_with fail
                refine (newTake_ok w8 gl (tt : Int)).mono ?_
                rintro e w11 ⟨g6, u6, rfl, l6, m6, b6, c6, x6⟩
                have N11 := M8.out.new x6 (i := tt) (h' := .take g6 (newTk u6)) (by rw [List.length_set]; exact hlt2) ⟨b6, c6, (fun q e => by cases e), (fun q e => by cases e), (fun q p e => by cases e)⟩ (fun q hq => by
                  have h1 := b6.lt
                  have h2 := c6.lt
                  rcases hq with e | e | ⟨q', e, _⟩ | ⟨q', e, _⟩
                  · omega
                  · have e2 : q = u6 := e
                    omega
                  · cases e
                  · cases e)
                rw [List.set_set] at N11
                have k0 : w11.cell? ⟨gh, tt * 2, none⟩ = some (.pointer none) := by
                  have := N11.h.cell (tt * 2 + 0)
                  rw [flat2 (rowsA_len hs) (by decide) ER.out] at this
                  exact this
                have f0 : w11.frozen? ⟨gh, tt * 2, none⟩ = false := N11.h.frozen _
                have P11 := N11.put (rowsA_len hs) (f := 0) (by decide) ER.out (.pointer (some ⟨g6, 0, none⟩))
                have er9 : ((hs.map AHd.cells).set tt ((AHd.give gg gu x a).cells.set 0 (.pointer (some ⟨g6, 0, none⟩))))[tt]? = some [.pointer (some ⟨g6, 0, none⟩), .pointer (some ⟨gg, 0, none⟩)] := by rw [set_get _ _ _ _ (by rw [List.length_map]; exact hlt2), if_pos rfl]; rfl
                have hl9 := set_len2 (i := tt) (r := (AHd.give gg gu x a).cells.set 0 (.pointer (some ⟨g6, 0, none⟩))) (rowsA_len hs) rfl
                have k1 : (w11.setCell ⟨gh, tt * 2, none⟩ (.pointer (some ⟨g6, 0, none⟩))).cell? ⟨gh, tt * 2 + 1, none⟩ = some (.pointer (some ⟨gg, 0, none⟩)) := by
                  have := P11.h.cell (tt * 2 + 1)
                  rw [flat2 hl9 (by decide) er9] at this
                  exact this
                have f1 : (w11.setCell ⟨gh, tt * 2, none⟩ (.pointer (some ⟨g6, 0, none⟩))).frozen? ⟨gh, tt * 2 + 1, none⟩ = false := P11.h.frozen _
                have HN12 := Lib.hid (P11.put hl9 (f := 1) (by decide) er9 (.pointer none))
                have HNF : Hid (AMAt w2 ((w11.setCell ⟨gh, tt * 2, none⟩ (.pointer (some ⟨g6, 0, none⟩))).setCell ⟨gh, tt * 2 + 1, none⟩ (.pointer none)) gm dv pv gl gh (layF k s l b) ((hs.set tt (.take g6 (newTk u6))).map AHd.cells) (hs.set tt (.take g6 (newTk u6))) s') := Lib.hid (by
                  have e : ((hs.map AHd.cells).set tt ((AHd.give gg gu x a).cells.set 0 (.pointer (some ⟨g6, 0, none⟩)))).set tt ([Value.pointer (some ⟨g6, 0, none⟩), Value.pointer (some ⟨gg, 0, none⟩)].set 1 (.pointer none)) = (hs.set tt (.take g6 (newTk u6))).map AHd.cells := by
                    rw [List.set_set, List.map_set]
                    rfl
                  rw [← e]
                  exact HN12.out)
                clear N11 P11 HN12 l6 m6 b6 c6 x6 er9 hl9
                go_wp2_with fail
                go_meet
                exact ⟨rfl, _, _, _, by rw [List.length_set]; exact HLn.out, HNF.out, FM'.out g6 u6, HFn.out, HWf.out⟩
            case rest =>
              obtain ⟨rfl, hs', L', sk', hl', am', fm', fi', ca'⟩ := hcut
              generalize wc = w9 at *
              have AM := Lib.hid am'
              have FM' := Lib.hid fm'
              have FI := Lib.hid fi'
              have CA' := Lib.hid ca'
              have HL' := Lib.hid hl'
              have HB9 := Lib.hid (B2.out.ext am'.m.lt.1)
              have HOn := Lib.hid (onceA_ok am' fm' hl' (by omega) s30 HOk.out)
              clear am' fm' fi' ca' hl'
              have y0 : w9.cell? ⟨w.heap.size, 0, none⟩ = some (.int .i64 k) := HB9.out.cell 0
              have y1 : w9.cell? ⟨w.heap.size, 1, none⟩ = some (.int .i64 s) := HB9.out.cell 1
              have y2 : w9.cell? ⟨w.heap.size, 2, none⟩ = some (.int .i64 l) := HB9.out.cell 2
              have y3 : w9.cell? ⟨w.heap.size, 3, none⟩ = some (.int .i64 b) := HB9.out.cell 3
              go_wp2_with fail
              refine HOn.out.mono ?_
              rintro e w10 ⟨rfl, x10⟩
              have AM10 := Lib.hid (AM.out.ext x10)
              clear x10 HOn AM HB9 y0 y1 y2 y3
              go_wp2_with fail
              go_roundw
              case rel => exact ⟨j + 1, hs', L', sk', by omega, by go_num, HL'.out, AM10.out, FM'.out, FI.out, by rw [show (100 : Int) + ((j + 1 : Nat) : Int) = 100 + (j : Int) + 1 by omega]; exact CA'.out⟩
              case measure => simp [intOf]; omega
        · have v2 : decide (j < n) = false := by simp; omega
          have v2' : decide ((j : Int) < (n : Int)) = false := by simp; omega
          clear HA HM HF HC HB
          go_wp2_with fail
          refine (HAw.out _).mono ?_
          rintro e w9 ⟨rfl, x9⟩
          have X9 := Lib.hid (XK.out.trans x9)
          clear x9
          go_wp2_with fail
          go_ret
          exact ⟨rfl, X9.out⟩
set_option maxRecDepth 100000 in
set_option maxHeartbeats 4000000 in
theorem arenaMany_no (w : World) (t s l b : Int) (A : Option Addr) (n c : Nat) (hn0 : n ≤ 9223372036854775807) (h : ¬ GrOk t s l b ∨ 300 < n) :
    Calls Tryz.prog 7 #[.agg #[.int .i64 t, .int .i64 s, .int .i64 l, .int .i64 b], .slice A n c] w fun e w' => e = .returned (.bool true) ∧ Ext w w' := by
  have X0 := Lib.hid ((Ext.refl w).alloc (.cells #[.int .i64 t, .int .i64 s, .int .i64 l, .int .i64 b] 23))
  have B0 := Lib.hid (Blk.new w 23 [.int .i64 t, .int .i64 s, .int .i64 l, .int .i64 b])
  have HAw := Lib.hid (fun W => awake12_ok W)
  by_cases hg : GrOk t s l b
  · have hn : 300 < n := h.resolve_left (fun c => c hg)
    have HY := Lib.hid (fun W => few9_yes t s l b W hg)
    have d300 : decide (300 < n) = true := by simp; omega
    have d300' : decide ((300 : Int) < (n : Int)) = true := by simp; omega
    clear h hg
    go_enter Tryz.func7, Tryz.ntmps7
    go_upto_region 1 with fail
    generalize w.alloc (.cells #[.int .i64 t, .int .i64 s, .int .i64 l, .int .i64 b] 23) = W0 at *
    have y0 : W0.cell? ⟨w.heap.size, 0, none⟩ = some (.int .i64 t) := B0.out.cell 0
    have y1 : W0.cell? ⟨w.heap.size, 1, none⟩ = some (.int .i64 s) := B0.out.cell 1
    have y2 : W0.cell? ⟨w.heap.size, 2, none⟩ = some (.int .i64 l) := B0.out.cell 2
    have y3 : W0.cell? ⟨w.heap.size, 3, none⟩ = some (.int .i64 b) := B0.out.cell 3
    go_wp2_with fail
    refine (HY.out _).mono ?_
    rintro e w1 ⟨rfl, x1⟩
    have X1 := Lib.hid (X0.out.trans x1)
    clear x1 y0 y1 y2 y3
    go_wp2_with fail
    refine (HAw.out _).mono ?_
    rintro e w2 ⟨rfl, x2⟩
    have X2 := Lib.hid (X1.out.trans x2)
    clear x2
    go_wp2_with fail
    go_ret
    exact ⟨rfl, X2.out⟩
  · have HY := Lib.hid (fun W => few9_no t s l b W hg)
    clear h hg
    go_enter Tryz.func7, Tryz.ntmps7
    go_upto_region 1 with fail
    generalize w.alloc (.cells #[.int .i64 t, .int .i64 s, .int .i64 l, .int .i64 b] 23) = W0 at *
    have y0 : W0.cell? ⟨w.heap.size, 0, none⟩ = some (.int .i64 t) := B0.out.cell 0
    have y1 : W0.cell? ⟨w.heap.size, 1, none⟩ = some (.int .i64 s) := B0.out.cell 1
    have y2 : W0.cell? ⟨w.heap.size, 2, none⟩ = some (.int .i64 l) := B0.out.cell 2
    have y3 : W0.cell? ⟨w.heap.size, 3, none⟩ = some (.int .i64 b) := B0.out.cell 3
    go_wp2_with fail
    refine (HY.out _).mono ?_
    rintro e w1 ⟨rfl, x1⟩
    have X1 := Lib.hid (X0.out.trans x1)
    clear x1 y0 y1 y2 y3
    go_wp2_with fail
    refine (HAw.out _).mono ?_
    rintro e w2 ⟨rfl, x2⟩
    have X2 := Lib.hid (X1.out.trans x2)
    clear x2
    go_wp2_with fail
    go_ret
    exact ⟨rfl, X2.out⟩
theorem arenaMany_walk (w : World) (t s l b : Int) (A : Option Addr) (n c : Nat) (zs : List Int) (hl : zs.length = n) (hn0 : n ≤ 9223372036854775807) (hA : Ints w .u8 A zs) (hz : Lim zs 256) :
    Calls Tryz.prog 7 #[.agg #[.int .i64 t, .int .i64 s, .int .i64 l, .int .i64 b], .slice A n c] w fun e w' => e = .returned (.bool true) ∧ Ext w w' := by
  by_cases h : ¬ GrOk t s l b ∨ 300 < n
  · exact arenaMany_no w t s l b A n c hn0 h
  · have hg : GrOk t s l b := Classical.byContradiction (fun c => h (Or.inl c))
    have h1 : ¬ 300 < n := fun c => h (Or.inr c)
    obtain ⟨⟨q0, q1⟩, ⟨q2, q3⟩, ⟨q4, q5⟩, q6, q7⟩ := id hg.1
    obtain ⟨t', rfl⟩ := Int.eq_ofNat_of_zero_le (show 0 ≤ t by omega)
    obtain ⟨s', rfl⟩ := Int.eq_ofNat_of_zero_le (show 0 ≤ s by omega)
    obtain ⟨l', rfl⟩ := Int.eq_ofNat_of_zero_le (show 0 ≤ l by omega)
    obtain ⟨b', rfl⟩ := Int.eq_ofNat_of_zero_le (show 0 ≤ b by omega)
    exact arenaMany_yes w A n c t' s' l' b' zs hl (by omega) hA hz hg

namespace arenaMany
set_option maxRecDepth 100000 in
theorem lifted (os : Os) (started : os.Started) (H : Type) (enc : TypeId × Value → H) :
    ReturnsInHanded {} Tryz.checked os 7 .any (Rows.arenaManySpec.pre6 enc Tryz.prog Tryz.f7 Rows.arenaManyRow.domain false) (Rows.arenaManySpec.post enc Tryz.prog Tryz.f7 false true false false) := by
  refine returnsInHanded_of_change (C := Tryz.checked) own started (by kernel_rfl) Tryz.func7
    (ChangeSpec.witness6 (enc := enc) (C := Tryz.checked) false ⟨#[], #[.agg #[.int .i64 0, .int .i64 0, .int .i64 0, .int .i64 0], .slice none 0 0], []⟩ 8 (by kernel_rfl) (by kernel_rfl) (by kernel_rfl) (by kernel_rfl)) ?_
  intro W base args ds gs before hval0 hW hcnd _
  have hval : ∀ (j : Nat) t v, Tryz.f7.params[j]? = some t → args[j]? = some v → Value.okWide Tryz.prog W .any base t v := hval0
  have hW' := hW
  obtain ⟨p, q, hA0, hV, rfl, hfz, hnd⟩ := hW
  have hA : DataW.TrodAll enc Tryz.prog W 0 (fun _ => true) true Tryz.f7.params.toList args.toList ds p := hA0
  have hlt : ∀ x ∈ p ++ q, x.block < W.heap.size := fun x hx => hW'.lt x hx
  rw [Tryz.params7] at hA hval
  have hB := hA
  obtain ⟨v0, vs0, d0, ds0, p0, q0, hargs, rfl, rfl, h0, r0⟩ := trodAll_cons hB
  obtain ⟨v1, vs1, d1, ds1, p1, q1, rfl, rfl, rfl, h1, r1⟩ := trodAll_cons r0
  obtain ⟨rfl, rfl, rfl⟩ := trodAll_nil r1
  obtain rfl : args = #[v0, v1] := by cases args; simp_all
  obtain ⟨rfl, rfl⟩ := trodVars_none hV
  obtain ⟨x0t, x0s, x0l, x0b, rfl, ok0⟩ := view_cfg Tryz.underlying23 (by kernel_rfl) (by kernel_rfl) Tryz.underlying3 Tryz.underlying3 Tryz.underlying3 Tryz.underlying3 (hval 0 23 v0 rfl rfl) h0
  obtain ⟨A1, c1, z1, rfl, lc1, mc1, I1, w1⟩ := view_ints Tryz.underlying93 Tryz.underlying5 (by kernel_rfl) (hval 1 93 v1 rfl rfl) h1
  clear hA0 hval0
  refine (arenaMany_walk W x0t x0s x0l x0b A1 _ c1 z1 rfl (Nat.le_trans lc1 mc1) I1 (lim_u8 w1)).mono fun e W' ⟨he, hx⟩ => ?_
  subst he
  exact ⟨_, rfl, post_ext (pv := []) hW' (fun _ _ _ => (trodAll_cons_mk (shut_bool Tryz.underlying4 _) trodAll_mk0)) (fun sp hsp => trodAll_stays laid hx _ _ _ _ (readable_of (by kernel_rfl)) hA (fun x hx => hlt x (by first | (simp at hx ⊢; exact hx) | simp at hx)) (fun x hx => hsp x (by first | (simp at hx ⊢; exact hx) | simp at hx))) (fun _ _ => rfl) rfl hx (ok_one (by kernel_rfl) rfl (okWide_bool_mk Tryz.underlying4 _))⟩

theorem over : Rows.arenaManyRow.holds Tryz.pinned (OpenSpec.ofChange Rows.arenaManySpec) :=
  OpenClaim.holds_of_wide 7 Tryz.f7 rfl rfl rfl rfl rfl rfl rfl ⟨rfl, rfl, rfl, rfl, rfl⟩ rfl rfl rfl rfl rfl (by kernel_rfl) Tryz.func7 arenaMany_closed
    (of_decide_eq_true (by kernel_rfl)) (by unfold Func.isWrapper; first | (rw [if_pos (by decide +kernel)]; kernel_rfl) | (rw [if_neg (by decide +kernel)]; exact ⟨rfl, rfl⟩))
    (fun os started H enc _ => lifted os started H enc)
end arenaMany

theorem arenaMany_holds : Rows.ArenaManySaid := arenaMany.over
end Go.Proofs.YtfjfeomkmhbpbaaGreat

