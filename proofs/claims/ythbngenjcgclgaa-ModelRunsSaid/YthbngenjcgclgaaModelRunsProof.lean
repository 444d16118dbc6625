/- Any operations on any state that may be, one behind the other, have the document's results and leave its states: the law answers true for every state and operations, and changes nothing. Conditions: none. -/
import Derived.Test.YthbngenjcgclgaaMod44
import Derived.Test.YthbngenjcgclgaaModR
import Derived.Test.YthbngenjcgclgaaArgs
import Derived.Deep.RegionHeld3
import Derived.Lib.QuietBelow
import Derived.Deep.DeepCutAuto
import Derived.Deep.RegionWith
import Derived.Test.YthbngenjcgclgaaMod16
import Derived.Test.YthbngenjcgclgaaMod4
namespace Go.Proofs.Ythbngenjcgclgaa
open Go.ChangeShapes Go.WideShapes Go.ChangeAt Go.RowKit
set_option linter.unusedVariables false

open Go.Sort
theorem grown_ext9 (w : World) (d : Nat) (os : Array Obj) : Ext w (grow (redrawn w d) os) := Ext.of (below_regrown w d os)
theorem two_states (w : World) (cs : List Value) (t : TypeId) : Blk ((w.alloc (.cells cs.toArray t)).alloc (.cells cs.toArray t)).drew w.heap.size t cs ∧ Blk ((w.alloc (.cells cs.toArray t)).alloc (.cells cs.toArray t)).drew (w.heap.size + 1) t cs ∧ Ext w ((w.alloc (.cells cs.toArray t)).alloc (.cells cs.toArray t)).drew := by
  have x1 := ((Ext.refl (w.alloc (.cells cs.toArray t))).alloc (.cells cs.toArray t)).drew
  have b1 := (Blk.new (w.alloc (.cells cs.toArray t)) t cs).ext (Ext.refl ((w.alloc (.cells cs.toArray t)).alloc (.cells cs.toArray t))).drew
  rw [show (w.alloc (.cells cs.toArray t)).heap.size = w.heap.size + 1 by simp] at b1
  exact ⟨(Blk.new w t cs).ext x1, b1, ((Ext.refl w).alloc _).trans x1⟩
theorem blk_new1 (w : World) (o : Obj) (t : TypeId) (cs : List Value) : Blk ((w.alloc o).alloc (.cells cs.toArray t)) (w.heap.size + 1) t cs := by
  have := Blk.new (w.alloc o) t cs
  rwa [show (w.alloc o).heap.size = w.heap.size + 1 by simp] at this
theorem after1 {w w6 : World} {c : List Value} {t : TypeId} (x : Ext (w.alloc (.cells c.toArray t)).drew w6) : Blk w6 w.heap.size t c := (Blk.new w t c).ext (((Ext.refl _).drew).trans x)
theorem after2 {w w6 : World} {c1 c2 : List Value} {t1 t2 : TypeId} (x : Ext ((w.alloc (.cells c1.toArray t1)).alloc (.cells c2.toArray t2)).drew w6) : Blk w6 w.heap.size t1 c1 ∧ Blk w6 (w.heap.size + 1) t2 c2 :=
  ⟨(Blk.new w t1 c1).ext ((((Ext.refl _).alloc _).drew).trans x), (blk_new1 w _ t2 c2).ext (((Ext.refl _).drew).trans x)⟩
theorem locN {wa : World} {A B : Option Addr} {n m gr gt : Nat} (h : NearP wa A n B m) (hl : 0 < n → ∀ a0, A = some a0 → a0.block ≠ gr ∧ a0.block ≠ gt) (hr : gr < wa.heap.size) (ht : gt < wa.heap.size) : 0 < m → ∀ ad, B = some ad → ad.block ≠ gr ∧ ad.block ≠ gt := fun h0 ad e => by
  rcases h h0 ad e with ⟨hn, a0, ea, eb⟩ | h
  · rw [eb]; exact hl hn a0 ea
  · exact ⟨by omega, by omega⟩
theorem nearW {w w' : World} {A B : Option Addr} {n m : Nat} (h : NearP w' A n B m) (hs : w.heap.size ≤ w'.heap.size) : NearP w A n B m := fun h0 ad e => (h h0 ad e).elim Or.inl (fun h => Or.inr (Nat.le_trans hs h))
theorem upto_get (rs : Nat → Rs) (n k : Nat) (h : k < n) : (upto rs n).getD k (0, 0) = rs k := by
  unfold upto
  rw [List.getD_eq_getElem?_getD, List.getElem?_map, List.getElem?_range h]
  rfl
theorem few_le8 (n0 n1 n2 : Nat) : ∃ f, (decide (n0 ≤ 100) && (decide (n1 ≤ 100) && decide (n2 ≤ 100))) = f ∧ (f = true → n0 ≤ 100 ∧ n1 ≤ 100 ∧ n2 ≤ 100) := ⟨_, rfl, fun h => by simpa using h⟩
set_option maxRecDepth 100000 in
set_option maxHeartbeats 80000000 in
theorem runsLaw_ok (w : World) (A0 A1 A2 A : Option Addr) (n0 n1 n2 c0 c1 c2 n c : Nat) (st : Sta) (ops : List O3) (h : StAt w A0 A1 A2 st) (hl : Lens st n0 n1 n2) (hcap : n0 ≤ c0 ∧ c0 ≤ 9223372036854775807)
    (h1 : n1 ≤ 9223372036854775807) (h2 : n2 ≤ 9223372036854775807) (hol : ops.length = n) (hn : n ≤ 9223372036854775807) (ho : OAt w A ops) :
    Calls Try.prog 3 #[.agg #[.slice A0 n0 c0, .slice A1 n1 c1, .slice A2 n2 c2], .slice A n c] w fun e w' => e = .returned (.bool true) ∧ Ext w w' := by
  have HS := Lib.hid h
  have HLL := Lib.hid hl
  have HO := Lib.hid ho
  obtain ⟨fa, efa, hfa⟩ := few_le8 n0 n1 n2
  have FA := Lib.hid (fun W => few_ok W A0 A1 A2 n0 n1 n2 c0 c1 c2 (Nat.le_trans hcap.1 hcap.2) h1 h2)
  rw [efa] at FA
  have GA := Lib.hid hfa
  have HCP := Lib.hid hcap
  have L0 := Lib.hid (Blk.new w 25 [.slice A0 n0 c0, .slice A1 n1 c1, .slice A2 n2 c2])
  have X0 := Lib.hid ((Ext.refl w).alloc (.cells #[.slice A0 n0 c0, .slice A1 n1 c1, .slice A2 n2 c2] 25))
  clear h hl efa hfa h1 h2 hcap ho
  go_enter Try.func3, Try.ntmps3
  go_upto_region 1 with fail
  generalize w.alloc (.cells #[.slice A0 n0 c0, .slice A1 n1 c1, .slice A2 n2 c2] 25) = W0 at *
  have HSf : Hid (∀ W, Ext W0 W → W.cell? ⟨w.heap.size, 0, none⟩ = some (.slice A0 n0 c0) ∧ W.cell? ⟨w.heap.size, 1, none⟩ = some (.slice A1 n1 c1) ∧ W.cell? ⟨w.heap.size, 2, none⟩ = some (.slice A2 n2 c2)) := Lib.hid (fun W x => ⟨(L0.out.ext x).cell 0, (L0.out.ext x).cell 1, (L0.out.ext x).cell 2⟩)
  obtain ⟨y0, y1, y2⟩ := HSf.out W0 (Ext.refl _)
  cases fa
  · have z0 := fun d os => cell_regrown y0 d os
    have z1 := fun d os => cell_regrown y1 d os
    have z2 := fun d os => cell_regrown y2 d os
    clear y0 y1 y2
    go_wp2_with fail
    refine wp_region_quiet_below (by kernel_rfl) (by kernel_rfl) ?_
    repeat (quiet_step (first
      | (with_reducible exact Calls.regrown_of (FA.out _))
      | (with_reducible exact Calls.regrown_of (HMR.out _ (grown_ext9 _ _ _)))
      | (with_reducible exact Calls.regrown_of (HRR.out _ (grown_ext9 _ _ _)))))
    refine wpQuiet_nil ?_
    intro w1 hw'
    have xt : Ext W0 w1 := by
      obtain ⟨⟨dq, osq⟩, hw2⟩ := hw'
      rw [hw2]
      exact grown_ext9 _ _ _
    clear hw' z0 z1 z2
    all_goals
      have X1 := Lib.hid (X0.out.trans xt)
      have L1 := Lib.hid (L0.out.ext xt)
      clear xt
      go_wp2_with fail
      refine (awake_ok _).mono ?_
      rintro e w2 ⟨rfl, x2⟩
      have X2 := Lib.hid (X1.out.trans x2)
      have L2 := Lib.hid (L1.out.ext x2)
      clear x2 X1 L1
      have y0 : w2.cell? ⟨w.heap.size, 0, none⟩ = some (.slice A0 n0 c0) := L2.out.cell 0
      have y1 : w2.cell? ⟨w.heap.size, 1, none⟩ = some (.slice A1 n1 c1) := L2.out.cell 1
      have y2 : w2.cell? ⟨w.heap.size, 2, none⟩ = some (.slice A2 n2 c2) := L2.out.cell 2
      go_wp2_with fail
      refine (FA.out _).mono ?_
      rintro e w3 ⟨rfl, x3⟩
      have X3 := Lib.hid (X2.out.trans x3)
      clear x3
      go_wp2_with fail
      go_ret
      exact ⟨rfl, X3.out⟩
  obtain ⟨n0', n1', n2'⟩ := GA.out (by simp)
  by_cases hgt : 100 < n
  · have d1 : decide (100 < n) = true := by simp; omega
    have d2 : (100 : Int) < (n : Int) := by omega
    have d3 : decide ((100 : Int) < (n : Int)) = true := by simp; omega
    have z0 := fun d os => cell_regrown y0 d os
    have z1 := fun d os => cell_regrown y1 d os
    have z2 := fun d os => cell_regrown y2 d os
    clear y0 y1 y2
    go_wp2_with fail
    refine wp_region_quiet_below (by kernel_rfl) (by kernel_rfl) ?_
    repeat (quiet_step (first
      | (with_reducible exact Calls.regrown_of (FA.out _))
      | (with_reducible exact Calls.regrown_of (HMR.out _ (grown_ext9 _ _ _)))
      | (with_reducible exact Calls.regrown_of (HRR.out _ (grown_ext9 _ _ _)))))
    refine wpQuiet_nil ?_
    intro w1 hw'
    have xt : Ext W0 w1 := by
      obtain ⟨⟨dq, osq⟩, hw2⟩ := hw'
      rw [hw2]
      exact grown_ext9 _ _ _
    clear hw' z0 z1 z2
    all_goals
      have X1 := Lib.hid (X0.out.trans xt)
      have L1 := Lib.hid (L0.out.ext xt)
      clear xt
      go_wp2_with fail
      refine (awake_ok _).mono ?_
      rintro e w2 ⟨rfl, x2⟩
      have X2 := Lib.hid (X1.out.trans x2)
      have L2 := Lib.hid (L1.out.ext x2)
      clear x2 X1 L1
      have y0 : w2.cell? ⟨w.heap.size, 0, none⟩ = some (.slice A0 n0 c0) := L2.out.cell 0
      have y1 : w2.cell? ⟨w.heap.size, 1, none⟩ = some (.slice A1 n1 c1) := L2.out.cell 1
      have y2 : w2.cell? ⟨w.heap.size, 2, none⟩ = some (.slice A2 n2 c2) := L2.out.cell 2
      go_wp2_with fail
      refine (FA.out _).mono ?_
      rintro e w3 ⟨rfl, x3⟩
      have X3 := Lib.hid (X2.out.trans x3)
      clear x3
      go_wp2_with fail
      go_ret
      exact ⟨rfl, X3.out⟩
  have d1 : decide (100 < n) = false := by simp; omega
  have d2 : ¬ (100 : Int) < (n : Int) := by omega
  have d3 : decide ((100 : Int) < (n : Int)) = false := by simp; omega
  have HMR := Lib.hid (fun W (x : Ext W0 W) => mRight_ok W A0 A1 A2 n0 n1 n2 c0 c1 c2 st (HS.out.ext (X0.out.trans x)) HLL.out (by omega) (by omega))
  have HRR := Lib.hid (fun W (x : Ext W0 W) => rRight_ok W A0 A1 A2 n0 n1 n2 c0 c1 c2 st (HS.out.ext (X0.out.trans x)) HLL.out (by omega) (by omega))
  obtain ⟨u, hu⟩ : ∃ u, upS st = u := ⟨_, rfl⟩
  rw [hu] at HMR HRR
  have HU := Lib.hid hu
  clear hu
  cases u
  · have z0 := fun d os => cell_regrown y0 d os
    have z1 := fun d os => cell_regrown y1 d os
    have z2 := fun d os => cell_regrown y2 d os
    clear y0 y1 y2
    go_wp2_with fail
    refine wp_region_quiet_below (by kernel_rfl) (by kernel_rfl) ?_
    repeat (quiet_step (first
      | (with_reducible exact Calls.regrown_of (FA.out _))
      | (with_reducible exact Calls.regrown_of (HMR.out _ (grown_ext9 _ _ _)))
      | (with_reducible exact Calls.regrown_of (HRR.out _ (grown_ext9 _ _ _)))))
    refine wpQuiet_nil ?_
    intro w1 hw'
    have xt : Ext W0 w1 := by
      obtain ⟨⟨dq, osq⟩, hw2⟩ := hw'
      rw [hw2]
      exact grown_ext9 _ _ _
    clear hw' z0 z1 z2
    all_goals
      have XT := Lib.hid xt
      have X1 := Lib.hid (X0.out.trans xt)
      have L1 := Lib.hid (L0.out.ext xt)
      clear xt
      obtain ⟨y0, y1, y2⟩ := HSf.out w1 XT.out
      go_wp2_with fail
      refine (HRR.out _ XT.out).mono ?_
      rintro e w2 ⟨rfl, x2⟩
      have X2 := Lib.hid (X1.out.trans x2)
      clear x2 y0 y1 y2
      go_wp2_with fail
      refine (awake_ok _).mono ?_
      rintro e w3 ⟨rfl, x3⟩
      have X3 := Lib.hid (X2.out.trans x3)
      clear x3
      go_wp2_with fail
      go_ret
      exact ⟨rfl, X3.out⟩
  have z0 := fun d os => cell_regrown y0 d os
  have z1 := fun d os => cell_regrown y1 d os
  have z2 := fun d os => cell_regrown y2 d os
  clear y0 y1 y2
  go_wp2_with fail
  refine wp_region_quiet_below (by kernel_rfl) (by kernel_rfl) ?_
  repeat (quiet_step (first
    | (with_reducible exact Calls.regrown_of (FA.out _))
    | (with_reducible exact Calls.regrown_of (HMR.out _ (grown_ext9 _ _ _)))
    | (with_reducible exact Calls.regrown_of (HRR.out _ (grown_ext9 _ _ _)))))
  refine wpQuiet_nil ?_
  intro w1 hw'
  have xt : Ext W0 w1 := by
    obtain ⟨⟨dq, osq⟩, hw2⟩ := hw'
    rw [hw2]
    exact grown_ext9 _ _ _
  clear hw' z0 z1 z2
  all_goals
    have XT := Lib.hid xt
    have X1 := Lib.hid (X0.out.trans xt)
    have L1 := Lib.hid (L0.out.ext xt)
    clear xt
    obtain ⟨y0, y1, y2⟩ := HSf.out w1 XT.out
    go_wp2_with fail
    refine (HRR.out _ XT.out).mono ?_
    rintro e w2 ⟨rfl, x2⟩
    have X2 := Lib.hid (X1.out.trans x2)
    have L2 := Lib.hid (L1.out.ext x2)
    have XT2 := Lib.hid (XT.out.trans x2)
    clear x2 y0 y1 y2 X1 L1 XT HMR HRR
    obtain ⟨y0, y1, y2⟩ := HSf.out w2 XT2.out
    have HRun := Lib.hid (run_ok w2 A0 A1 A2 A n0 n1 n2 c0 c1 c2 n c st ops (HS.out.ext X2.out) HLL.out (by omega) (by omega) (by omega) hol (by omega) (HO.out.ext X2.out))
    have hul : (upto (runR st ops) n).length = n := upto_len _ _
    go_wp2_with fail
    refine HRun.out.mono ?_
    rintro e w3 ⟨B0, B1, B2, R, d0, d1', d2', d, rfl, se, hR, x3⟩
    rw [hul]
    have X3 := Lib.hid (X2.out.trans x3)
    have SE := Lib.hid se
    have HR := Lib.hid hR
    have hs3 : w.heap.size < w3.heap.size := (L2.out.ext x3).lt
    have e3 := (Ext.refl w3).alloc (.cells #[.slice B0 (runS st ops n).q.length d0, .slice B1 (runS st ops n).s.length d1', .slice B2 (runS st ops n).m.length d2'] 25)
    have BE := Lib.hid (Blk.new w3 25 [.slice B0 (runS st ops n).q.length d0, .slice B1 (runS st ops n).s.length d1', .slice B2 (runS st ops n).m.length d2'])
    have XT4 := Lib.hid ((XT2.out.trans x3).trans e3)
    have X4 := Lib.hid (X3.out.trans e3)
    have SE4 := Lib.hid (se.ext e3)
    have HR4 := Lib.hid (hR.ext e3)
    have hnn : ((n : Int) != (n : Int)) = false := by simp
    clear x3 e3 se hR y0 y1 y2 X2 XT2 X3 SE HR HRun L2 hul
    generalize hE : runS st ops n = E at *
    have HE := Lib.hid hE
    clear hE
    go_upto_region 6 with fail
    generalize w3.alloc (.cells #[.slice B0 E.q.length d0, .slice B1 E.s.length d1', .slice B2 E.m.length d2'] 25) = w4 at *
    obtain ⟨y0, y1, y2⟩ := HSf.out w4 XT4.out
    go_wp2_with fail
    go_cut [7, 8] (fun s7 s8 wx => ∃ gr gt, s7 = .pointer (some ⟨gr, 0, none⟩) ∧ s8 = .pointer (some ⟨gt, 0, none⟩) ∧ gr ≠ gt ∧ w4.heap.size ≤ gr ∧ w4.heap.size ≤ gt ∧ Blk wx gr 25 [.slice A0 n0 c0, .slice A1 n1 c1, .slice A2 n2 c2] ∧ Blk wx gt 25 [.slice A0 n0 c0, .slice A1 n1 c1, .slice A2 n2 c2] ∧ Ext w4 wx)
    case first =>
      have hs4 : w.heap.size < w4.heap.size := (L0.out.ext XT4.out).lt
      have ne4 : ¬ w.heap.size = w4.heap.size := by omega
      have ne5 : ¬ w.heap.size = w4.heap.size + 1 := by omega
      go_region_with (fail)
      all_goals
        go_wp2_with fail
        go_meet
        have tb := two_states w4 [.slice A0 n0 c0, .slice A1 n1 c1, .slice A2 n2 c2] 25
        first
          | exact ⟨_, _, rfl, rfl, by omega, by omega, by omega, tb.1, tb.2.1, tb.2.2⟩
          | exact ⟨_, _, rfl, rfl, by omega, by omega, by omega, tb.2.1, tb.1, tb.2.2⟩
    case rest =>
      obtain ⟨gr, gt, rfl, rfl, hne, lr, lt, br, bt, xr⟩ := hcut
      generalize wc = w5 at *
      have BR := Lib.hid br
      have BT := Lib.hid bt
      have X45 := Lib.hid xr
      have hge : w3.heap.size < w4.heap.size := BE.out.lt
      clear br bt xr y0 y1 y2 hnn hs3
      go_wp2_with fail
      go_loopw [9, 10, 11, 12, 13] (fun i _ _ _ _ wr => ∃ (k : Nat) (C0 C1 C2 D0 D1 D2 : Option Addr) (f0 f1 f2 h0 h1 h2 : Nat), k ≤ n ∧ i = .int .i64 k ∧ Ext w4 wr ∧ (Blk wr gr 25 [.slice C0 (runS st ops k).q.length f0, .slice C1 (runS st ops k).s.length f1, .slice C2 (runS st ops k).m.length f2] ∧ ((runS st ops k).q.length ≤ f0 ∧ f0 ≤ 9223372036854775807) ∧ StAt wr C0 C1 C2 (runS st ops k) ∧ (∀ ad, (0 < (runS st ops k).q.length ∧ C0 = some ad) ∨ (0 < (runS st ops k).s.length ∧ C1 = some ad) ∨ (0 < (runS st ops k).m.length ∧ C2 = some ad) → ad.block ≠ gr ∧ ad.block ≠ gt)) ∧ Blk wr gt 25 [.slice D0 (runS st ops k).q.length h0, .slice D1 (runS st ops k).s.length h1, .slice D2 (runS st ops k).m.length h2] ∧ StAt wr D0 D1 D2 (runS st ops k)) (fun i _ _ _ _ _ => n - (intOf i).toNat)
      case atStart => exact ⟨0, A0, A1, A2, A0, A1, A2, c0, c1, c2, c0, c1, c2, Nat.zero_le _, rfl, X45.out, ⟨by show Blk _ _ _ [.slice A0 st.q.length c0, .slice A1 st.s.length c1, .slice A2 st.m.length c2]; rw [HLL.out.q, HLL.out.s, HLL.out.m]; exact BR.out, by show st.q.length ≤ _ ∧ _; rw [HLL.out.q]; exact HCP.out, HS.out.ext (X4.out.trans X45.out), fun ad e => (by
        have hsz := X4.out.size
        have hlt : ad.block < w.heap.size := by
          rcases e with ⟨h0, e⟩ | ⟨h0, e⟩ | ⟨h0, e⟩
          · obtain ⟨a', e', hl, _⟩ := HS.out.q h0
            rw [e] at e'; injection e' with e'; rw [e']; exact hl
          · obtain ⟨a', e', hl, _⟩ := HS.out.s h0
            rw [e] at e'; injection e' with e'; rw [e']; exact hl
          · obtain ⟨a', e', hl, _⟩ := HS.out.m h0
            rw [e] at e'; injection e' with e'; rw [e']; exact hl
        omega)⟩, by show Blk _ _ _ [.slice A0 st.q.length c0, .slice A1 st.s.length c1, .slice A2 st.m.length c2]; rw [HLL.out.q, HLL.out.s, HLL.out.m]; exact BT.out, HS.out.ext (X4.out.trans X45.out)⟩
      case round =>
        obtain ⟨k, C0, C1, C2, D0, D1, D2, f0, f1, f2, h0, h1, h2, hk, rfl, xk, ⟨bk, hcp, sk, hloc⟩, tk, stk⟩ := hrel
        have XK := Lib.hid xk
        have BK := Lib.hid bk
        have CP := Lib.hid hcp
        have SK := Lib.hid sk
        have LOC := Lib.hid hloc
        have TK := Lib.hid tk
        have STK := Lib.hid stk
        have hgr : gr < wr.heap.size := bk.lt
        have hgt' : gt < wr.heap.size := tk.lt
        have SMK : Hid (Small (runS st ops k) (100 + k)) := Lib.hid (small_run (n := 100) ⟨by rw [HLL.out.q]; exact n0', by rw [HLL.out.s]; exact n1', by rw [HLL.out.m]; exact n2'⟩ ops k)
        clear xk bk hcp sk hloc tk stk BR BT X45
        by_cases hlt : k < n
        · have v1 : decide (k < n) = true := by simp; omega
          obtain ⟨ad, hA, had, hoc⟩ := (HO.out.ext (X4.out.trans XK.out)) (by omega)
          obtain ⟨o0, o1, o2⟩ := hoc k (by omega)
          have hRS : runS st ops (k + 1) = (doS (runS st ops k) (ops.getD k (0, 0, 0)).1 (ops.getD k (0, 0, 0)).2.1 (ops.getD k (0, 0, 0)).2.2).1 := rfl
          have hRR : runR st ops k = (doS (runS st ops k) (ops.getD k (0, 0, 0)).1 (ops.getD k (0, 0, 0)).2.1 (ops.getD k (0, 0, 0)).2.2).2 := rfl
          have HUk : Hid (upS (runS st ops k) = true) := Lib.hid (by
            have : ∀ j, upS (runS st ops j) = true := fun j => by
              induction j with
              | zero => exact HU.out
              | succ j ih => exact upS_do _ _ _ _ ih
            exact this k)
          have SMN : Hid (Small (runS st ops (k + 1)) (100 + (k + 1))) := Lib.hid (small_run (n := 100) ⟨by rw [HLL.out.q]; exact n0', by rw [HLL.out.s]; exact n1', by rw [HLL.out.m]; exact n2'⟩ ops (k + 1))
          have HUn : Hid (upS (runS st ops (k + 1)) = true) := Lib.hid (by rw [hRS]; exact upS_do _ _ _ _ HUk.out)
          have hup : (runS st ops k).m.Pairwise (fun p q => p.1 < q.1) := by
            have := HUk.out
            unfold upS at this
            rw [Bool.and_eq_true] at this
            exact (upP_pw _).1 this.2
          have HUp := Lib.hid hup
          clear hup
          have HRk : Hid (∀ W, Ext w4 W → ∃ g, R = some ⟨g, 0, none⟩ ∧ W.cell? ⟨g, k * 2, none⟩ = some (.int .i64 (runR st ops k).1) ∧ W.cell? ⟨g, k * 2 + 1, none⟩ = some (.int .u32 (runR st ops k).2)) := Lib.hid (fun W x => by
            obtain ⟨g, e, _, hc⟩ := (HR4.out.ext x) (by rw [upto_len]; omega)
            have := hc k (by rw [upto_len]; exact hlt)
            rw [upto_get] at this
            · exact ⟨g, e, this⟩
            · exact hlt)
          have HAp := Lib.hid (fun W (x : Ext wr W) => applyF_ok W D0 D1 D2 _ _ _ h0 h1 h2 (runS st ops k) (ops.getD k (0, 0, 0)).1 (ops.getD k (0, 0, 0)).2.1 (ops.getD k (0, 0, 0)).2.2 (STK.out.ext x) ⟨rfl, rfl, rfl⟩ (by have := SMK.out.q; omega) (by have := SMK.out.s; omega) (by have := SMK.out.m; omega))
          have HRp := Lib.hid (fun W (x : Ext wr W) => rApply_ok W C0 C1 C2 _ _ _ f0 f1 f2 (runS st ops k) (ops.getD k (0, 0, 0)).1 (ops.getD k (0, 0, 0)).2.1 (ops.getD k (0, 0, 0)).2.2 (SK.out.ext x) ⟨rfl, rfl, rfl⟩ (by have := SMK.out.q; omega) (by have := SMK.out.s; omega) (by have := SMK.out.m; omega) CP.out HUp.out)
          rw [← hRS, ← hRR] at HAp HRp
          clear hRS hRR
          generalize runR st ops k = p at *
          obtain ⟨p0, p1⟩ := p
          obtain ⟨Z, hZ⟩ : ∃ Z, runS st ops (k + 1) = Z := ⟨_, rfl⟩
          rw [hZ] at HAp HRp SMN HUn
          have HZ := Lib.hid hZ
          clear hZ
          have HO3 : Hid (∀ W, Ext wr W → W.cell? (ad.add (k * 3)) = some (.int .i64 (ops.getD k (0, 0, 0)).1) ∧ W.cell? ⟨(ad.add (k * 3)).block, (ad.add (k * 3)).off + 1, none⟩ = some (.int .u32 (ops.getD k (0, 0, 0)).2.1) ∧ W.cell? ⟨(ad.add (k * 3)).block, (ad.add (k * 3)).off + 2, none⟩ = some (.int .u32 (ops.getD k (0, 0, 0)).2.2)) := Lib.hid (fun W x => by
            obtain ⟨ad', e, _, hc⟩ := ((HO.out.ext (X4.out.trans XK.out)).ext x) (by omega)
            rw [hA] at e
            injection e with e
            subst e
            exact hc k (by omega))
          generalize ops.getD k (0, 0, 0) = o at *
          obtain ⟨ka, oa, ob⟩ := o
          simp only at o0 o1 o2 HO3 HAp HRp
          generalize runS st ops k = Y at *
          subst hA
          clear hoc
          have had' : ad.block < wr.heap.size := had
          have nb0 : ¬ (ad.add (k * 3)).block = wr.heap.size := by rw [add_block]; omega
          have nb1 : ¬ (ad.add (k * 3)).block = wr.heap.size + 1 := by rw [add_block]; omega
          have ng0 : ¬ gt = wr.heap.size := by omega
          have ng1 : ¬ gt = wr.heap.size + 1 := by omega
          have nl0 : (ad.add (k * 3)).block < wr.heap.size := by rw [add_block]; omega
          have nl1 : (ad.add (k * 3)).block < wr.heap.size + 1 := by rw [add_block]; omega
          have nl2 : gt < wr.heap.size + 1 := by omega
          go_wp2_with fail
          go_cut [10, 11] (fun s1 s2 wx => ∃ (ga gx : Nat) (U0 U1 U2 : Option Addr) (u0 u1 u2 : Nat), s1 = .pointer (some ⟨ga, 0, none⟩) ∧ s2 = .pointer (some ⟨gx, 0, none⟩) ∧ RegPost gr gt wr wx ga gx (.slice U0 Z.q.length u0) (.slice U1 Z.s.length u1) (.slice U2 Z.m.length u2) (.int .i64 p0) (.int .u32 p1) (fun W => StAt W U0 U1 U2 Z))
          case first =>
            have HSa : Hid (∀ W, Ext wr W → W.cell? ⟨gt, 0, none⟩ = some (.slice D0 Y.q.length h0) ∧ W.cell? ⟨gt, 1, none⟩ = some (.slice D1 Y.s.length h1) ∧ W.cell? ⟨gt, 2, none⟩ = some (.slice D2 Y.m.length h2) ∧ W.cell? (ad.add (k * 3)) = some (.int .i64 ka) ∧ W.cell? ⟨(ad.add (k * 3)).block, (ad.add (k * 3)).off + 1, none⟩ = some (.int .u32 oa) ∧ W.cell? ⟨(ad.add (k * 3)).block, (ad.add (k * 3)).off + 2, none⟩ = some (.int .u32 ob)) := Lib.hid (fun W x => ⟨(TK.out.ext x).cell 0, (TK.out.ext x).cell 1, (TK.out.ext x).cell 2, (HO3.out W (x)).1, (HO3.out W (x)).2.1, (HO3.out W (x)).2.2⟩)
            have xt : Ext wr wr.drew := (Ext.refl wr).drew
            obtain ⟨q0, q1, q2, o0, o1, o2⟩ := HSa.out wr (Ext.refl _)
            go_region_held3 (fun W => W.cell? ⟨gt, 0, none⟩ = some (.slice D0 Y.q.length h0) ∧ W.cell? ⟨gt, 1, none⟩ = some (.slice D1 Y.s.length h1) ∧ W.cell? ⟨gt, 2, none⟩ = some (.slice D2 Y.m.length h2) ∧ W.cell? (ad.add (k * 3)) = some (.int .i64 ka) ∧ W.cell? ⟨(ad.add (k * 3)).block, (ad.add (k * 3)).off + 1, none⟩ = some (.int .u32 oa) ∧ W.cell? ⟨(ad.add (k * 3)).block, (ad.add (k * 3)).off + 2, none⟩ = some (.int .u32 ob)) (first | exact HSa.out _ xt | (exact HSa.out _ (by (repeat' (first | exact xt | exact Ext.refl _ | refine Ext.alloc ?_ _ | refine Ext.drew ?_ | refine Ext.setCell ?_ ?_ _)) <;> (first | omega | (dsimp only; omega) | (simp; omega))))) (first
              | (go_at_call 9; refine (HAp.out _ (by first | exact xt | exact (xt.alloc _) | exact ((xt.alloc _).alloc _))).mono ?_; rintro e w6 ⟨U0, U1, U2, u0, u1, u2, rfl, sz6, hnr6, x6⟩; have xw6 : Ext wr w6 := (Ext.trans (by first | exact xt | exact ((Ext.refl wr).alloc _).drew | exact (((Ext.refl wr).alloc _).alloc _).drew) x6); have hb6 : wr.heap.size ≤ w6.heap.size := xw6.size; have ma0 : ¬ gt = w6.heap.size := (by omega); have ma1 : ¬ (ad.add (k * 3)).block = w6.heap.size := (by omega); have ma2 : ¬ gt = w6.heap.size + 1 := (by omega); have ma3 : ¬ (ad.add (k * 3)).block = w6.heap.size + 1 := (by omega); have mb0 : gt < w6.heap.size := (by omega); have mb1 : (ad.add (k * 3)).block < w6.heap.size := (by omega); obtain ⟨z0, z1, z2, z3, z4, z5⟩ := HSa.out w6 xw6; replace xt := xw6; (try (have B0 := after1 (c := [.slice none 0 0, .slice none 0 0, .slice none 0 0]) (t := 25) x6; have fc0 : w6.cell? ⟨wr.heap.size, 0, none⟩ = some (.slice none 0 0) := B0.cell 0; have fc1 : w6.cell? ⟨wr.heap.size, 1, none⟩ = some (.slice none 0 0) := B0.cell 1; have fc2 : w6.cell? ⟨wr.heap.size, 2, none⟩ = some (.slice none 0 0) := B0.cell 2; have ff0 : w6.frozen? ⟨wr.heap.size, 0, none⟩ = false := B0.frozen 0; have ff1 : w6.frozen? ⟨wr.heap.size, 1, none⟩ = false := B0.frozen 1; have ff2 : w6.frozen? ⟨wr.heap.size, 2, none⟩ = false := B0.frozen 2; have fne0 : ¬ wr.heap.size = w6.heap.size := Nat.ne_of_lt B0.lt; have flt0 : wr.heap.size < w6.heap.size := B0.lt; have fnf0 : ¬ w6.heap.size = wr.heap.size := Nat.ne_of_gt B0.lt; clear B0)); (try (have B0 := after1 (c := [.int .i64 0, .int .u32 0]) (t := 34) x6; have fc0 : w6.cell? ⟨wr.heap.size, 0, none⟩ = some (.int .i64 0) := B0.cell 0; have fc1 : w6.cell? ⟨wr.heap.size, 1, none⟩ = some (.int .u32 0) := B0.cell 1; have ff0 : w6.frozen? ⟨wr.heap.size, 0, none⟩ = false := B0.frozen 0; have ff1 : w6.frozen? ⟨wr.heap.size, 1, none⟩ = false := B0.frozen 1; have fne0 : ¬ wr.heap.size = w6.heap.size := Nat.ne_of_lt B0.lt; have flt0 : wr.heap.size < w6.heap.size := B0.lt; have fnf0 : ¬ w6.heap.size = wr.heap.size := Nat.ne_of_gt B0.lt; clear B0)); (try (have BB := after2 (c1 := [.slice none 0 0, .slice none 0 0, .slice none 0 0]) (t1 := 25) (c2 := [.int .i64 0, .int .u32 0]) (t2 := 34) x6; have B0 := BB.1; have B1 := BB.2; clear BB; have fc0 : w6.cell? ⟨wr.heap.size, 0, none⟩ = some (.slice none 0 0) := B0.cell 0; have fc1 : w6.cell? ⟨wr.heap.size, 1, none⟩ = some (.slice none 0 0) := B0.cell 1; have fc2 : w6.cell? ⟨wr.heap.size, 2, none⟩ = some (.slice none 0 0) := B0.cell 2; have ff0 : w6.frozen? ⟨wr.heap.size, 0, none⟩ = false := B0.frozen 0; have ff1 : w6.frozen? ⟨wr.heap.size, 1, none⟩ = false := B0.frozen 1; have ff2 : w6.frozen? ⟨wr.heap.size, 2, none⟩ = false := B0.frozen 2; have gc0 : w6.cell? ⟨wr.heap.size + 1, 0, none⟩ = some (.int .i64 0) := B1.cell 0; have gc1 : w6.cell? ⟨wr.heap.size + 1, 1, none⟩ = some (.int .u32 0) := B1.cell 1; have gf0 : w6.frozen? ⟨wr.heap.size + 1, 0, none⟩ = false := B1.frozen 0; have gf1 : w6.frozen? ⟨wr.heap.size + 1, 1, none⟩ = false := B1.frozen 1; clear B1; have fne0 : ¬ wr.heap.size = w6.heap.size := Nat.ne_of_lt B0.lt; have flt0 : wr.heap.size < w6.heap.size := B0.lt; have fnf0 : ¬ w6.heap.size = wr.heap.size := Nat.ne_of_gt B0.lt; clear B0)); (try (have BB := after2 (c1 := [.int .i64 0, .int .u32 0]) (t1 := 34) (c2 := [.slice none 0 0, .slice none 0 0, .slice none 0 0]) (t2 := 25) x6; have B0 := BB.1; have B1 := BB.2; clear BB; have fc0 : w6.cell? ⟨wr.heap.size, 0, none⟩ = some (.int .i64 0) := B0.cell 0; have fc1 : w6.cell? ⟨wr.heap.size, 1, none⟩ = some (.int .u32 0) := B0.cell 1; have ff0 : w6.frozen? ⟨wr.heap.size, 0, none⟩ = false := B0.frozen 0; have ff1 : w6.frozen? ⟨wr.heap.size, 1, none⟩ = false := B0.frozen 1; have gc0 : w6.cell? ⟨wr.heap.size + 1, 0, none⟩ = some (.slice none 0 0) := B1.cell 0; have gc1 : w6.cell? ⟨wr.heap.size + 1, 1, none⟩ = some (.slice none 0 0) := B1.cell 1; have gc2 : w6.cell? ⟨wr.heap.size + 1, 2, none⟩ = some (.slice none 0 0) := B1.cell 2; have gf0 : w6.frozen? ⟨wr.heap.size + 1, 0, none⟩ = false := B1.frozen 0; have gf1 : w6.frozen? ⟨wr.heap.size + 1, 1, none⟩ = false := B1.frozen 1; have gf2 : w6.frozen? ⟨wr.heap.size + 1, 2, none⟩ = false := B1.frozen 2; clear B1; have fne0 : ¬ wr.heap.size = w6.heap.size := Nat.ne_of_lt B0.lt; have flt0 : wr.heap.size < w6.heap.size := B0.lt; have fnf0 : ¬ w6.heap.size = wr.heap.size := Nat.ne_of_gt B0.lt; clear B0))))
            all_goals
              go_wp2_with fail
              go_meet
              (try unfold StF at sz6)
              refine ⟨_, _, U0, U1, U2, u0, u1, u2, rfl, rfl, ?_⟩
              first
                | (with_reducible refine way1 x6 sz6 ?_)
                | (with_reducible refine way2 x6 sz6 ?_)
                | (with_reducible refine way3 x6 sz6 ?_ ?_)
                | (with_reducible refine way4 x6 sz6 ?_ ?_ ?_)
                | (with_reducible refine way5 x6 sz6 ?_ ?_)
                | (with_reducible refine way6 x6 sz6 ?_ ?_ ?_)
              all_goals (first | (rintro q (rfl | rfl) <;> (first | (show _ < _; simp; done) | (show _ < _; simp; omega))) | (first | (show _ < _; simp; done) | (show _ < _; simp; omega)))
          case rest =>
            obtain ⟨ga, gx, U0, U1, U2, u0, u1, u2, rfl, rfl, ⟨hga, hla, hlx, ⟨a0, a1, a2⟩, ⟨b0, b1⟩, su, xa⟩⟩ := hcut
            generalize wc = wa at *
            have hwa : wr.heap.size ≤ wa.heap.size := xa.size
            have XA := Lib.hid xa
            have SU := Lib.hid su
            have hla2 := block_lt_of_cell a0
            have hlx2 := block_lt_of_cell b0
            have HCa : Hid (∀ W, Ext wa W → (W.cell? ⟨ga, 0, none⟩ = some (.slice U0 Z.q.length u0) ∧ W.cell? ⟨ga, 1, none⟩ = some (.slice U1 Z.s.length u1) ∧ W.cell? ⟨ga, 2, none⟩ = some (.slice U2 Z.m.length u2)) ∧ W.cell? ⟨gx, 0, none⟩ = some (.int .i64 p0) ∧ W.cell? ⟨gx, 1, none⟩ = some (.int .u32 p1)) := Lib.hid (fun W x => ⟨⟨(World.cell?_of_block (x.block ga hla2)).trans a0, (World.cell?_of_block (x.block ga hla2)).trans a1, (World.cell?_of_block (x.block ga hla2)).trans a2⟩, (World.cell?_of_block (x.block gx hlx2)).trans b0, (World.cell?_of_block (x.block gx hlx2)).trans b1⟩)
            have BK2 := Lib.hid (BK.out.ext xa)
            have HRp2 := Lib.hid (fun W (x : Ext wa W) => HRp.out W (XA.out.trans x))
            have HCB : Hid (∀ ad, (0 < Y.q.length ∧ C0 = some ad) ∨ (0 < Y.s.length ∧ C1 = some ad) ∨ (0 < Y.m.length ∧ C2 = some ad) → ad.block < wr.heap.size) := Lib.hid (fun ad e => by
              rcases e with ⟨h0, e⟩ | ⟨h0, e⟩ | ⟨h0, e⟩
              · obtain ⟨a', e', hl, _⟩ := SK.out.q h0
                rw [e] at e'; injection e' with e'; rw [e']; exact hl
              · obtain ⟨a', e', hl, _⟩ := SK.out.s h0
                rw [e] at e'; injection e' with e'; rw [e']; exact hl
              · obtain ⟨a', e', hl, _⟩ := SK.out.m h0
                rw [e] at e'; injection e' with e'; rw [e']; exact hl)
            clear xa su a0 a1 a2 b0 b1 o0 o1 o2 nb0 nb1 ng0 ng1 nl0 nl1 nl2
            have hadw : (ad.add (k * 3)).block < wr.heap.size := by rw [add_block]; omega
            have nb0 : ¬ (ad.add (k * 3)).block = wa.heap.size := by omega
            have nb1 : ¬ (ad.add (k * 3)).block = wa.heap.size + 1 := by omega
            have ng0 : ¬ gr = wa.heap.size := by omega
            have ng1 : ¬ gr = wa.heap.size + 1 := by omega
            have nl0 : (ad.add (k * 3)).block < wa.heap.size := by omega
            have nl1 : (ad.add (k * 3)).block < wa.heap.size + 1 := by omega
            have nl2 : gr < wa.heap.size + 1 := by omega
            have nl3 : gr < wa.heap.size := by omega
            have nl4 : gt < wa.heap.size := by omega
            go_wp2_with fail
            go_cut [12, 13] (fun s1 s2 wx => ∃ (gb gy : Nat) (U0 U1 U2 : Option Addr) (u0 u1 u2 : Nat), s1 = .pointer (some ⟨gb, 0, none⟩) ∧ s2 = .pointer (some ⟨gy, 0, none⟩) ∧ RegPost gr gt wa wx gb gy (.slice U0 Z.q.length u0) (.slice U1 Z.s.length u1) (.slice U2 Z.m.length u2) (.int .i64 p0) (.int .u32 p1) (fun W => StAt W U0 U1 U2 Z) ∧ (Z.q.length ≤ u0 ∧ u0 ≤ 9223372036854775807) ∧ (NearP wa C0 Y.q.length U0 Z.q.length ∧ NearP wa C1 Y.s.length U1 Z.s.length ∧ NearP wa C2 Y.m.length U2 Z.m.length))
            case first =>
              have HSa : Hid (∀ W, Ext wa W → W.cell? ⟨gr, 0, none⟩ = some (.slice C0 Y.q.length f0) ∧ W.cell? ⟨gr, 1, none⟩ = some (.slice C1 Y.s.length f1) ∧ W.cell? ⟨gr, 2, none⟩ = some (.slice C2 Y.m.length f2) ∧ W.cell? (ad.add (k * 3)) = some (.int .i64 ka) ∧ W.cell? ⟨(ad.add (k * 3)).block, (ad.add (k * 3)).off + 1, none⟩ = some (.int .u32 oa) ∧ W.cell? ⟨(ad.add (k * 3)).block, (ad.add (k * 3)).off + 2, none⟩ = some (.int .u32 ob)) := Lib.hid (fun W x => ⟨(BK2.out.ext x).cell 0, (BK2.out.ext x).cell 1, (BK2.out.ext x).cell 2, (HO3.out W (XA.out.trans x)).1, (HO3.out W (XA.out.trans x)).2.1, (HO3.out W (XA.out.trans x)).2.2⟩)
              have xt : Ext wa wa.drew := (Ext.refl wa).drew
              obtain ⟨q0, q1, q2, o0, o1, o2⟩ := HSa.out wa (Ext.refl _)
              go_region_held3 (fun W => W.cell? ⟨gr, 0, none⟩ = some (.slice C0 Y.q.length f0) ∧ W.cell? ⟨gr, 1, none⟩ = some (.slice C1 Y.s.length f1) ∧ W.cell? ⟨gr, 2, none⟩ = some (.slice C2 Y.m.length f2) ∧ W.cell? (ad.add (k * 3)) = some (.int .i64 ka) ∧ W.cell? ⟨(ad.add (k * 3)).block, (ad.add (k * 3)).off + 1, none⟩ = some (.int .u32 oa) ∧ W.cell? ⟨(ad.add (k * 3)).block, (ad.add (k * 3)).off + 2, none⟩ = some (.int .u32 ob)) (first | exact HSa.out _ xt | (exact HSa.out _ (by (repeat' (first | exact xt | exact Ext.refl _ | refine Ext.alloc ?_ _ | refine Ext.drew ?_ | refine Ext.setCell ?_ ?_ _)) <;> (first | omega | (dsimp only; omega) | (simp; omega))))) (first
                | (go_at_call 10; refine (HRp2.out _ (by first | exact xt | exact (xt.alloc _) | exact ((xt.alloc _).alloc _))).mono ?_; rintro e w6 ⟨U0, U1, U2, u0, u1, u2, rfl, ⟨hc1, hc2⟩, sz6, hnr6, x6⟩; have xw6 : Ext wa w6 := (Ext.trans (by first | exact xt | exact ((Ext.refl wa).alloc _).drew | exact (((Ext.refl wa).alloc _).alloc _).drew) x6); have hb6 : wa.heap.size ≤ w6.heap.size := xw6.size; have ma0 : ¬ gr = w6.heap.size := (by omega); have ma1 : ¬ (ad.add (k * 3)).block = w6.heap.size := (by omega); have ma2 : ¬ gr = w6.heap.size + 1 := (by omega); have ma3 : ¬ (ad.add (k * 3)).block = w6.heap.size + 1 := (by omega); have mb0 : gr < w6.heap.size := (by omega); have mb1 : (ad.add (k * 3)).block < w6.heap.size := (by omega); obtain ⟨z0, z1, z2, z3, z4, z5⟩ := HSa.out w6 xw6; replace xt := xw6; (try (have B0 := after1 (c := [.slice none 0 0, .slice none 0 0, .slice none 0 0]) (t := 25) x6; have fc0 : w6.cell? ⟨wa.heap.size, 0, none⟩ = some (.slice none 0 0) := B0.cell 0; have fc1 : w6.cell? ⟨wa.heap.size, 1, none⟩ = some (.slice none 0 0) := B0.cell 1; have fc2 : w6.cell? ⟨wa.heap.size, 2, none⟩ = some (.slice none 0 0) := B0.cell 2; have ff0 : w6.frozen? ⟨wa.heap.size, 0, none⟩ = false := B0.frozen 0; have ff1 : w6.frozen? ⟨wa.heap.size, 1, none⟩ = false := B0.frozen 1; have ff2 : w6.frozen? ⟨wa.heap.size, 2, none⟩ = false := B0.frozen 2; have fne0 : ¬ wa.heap.size = w6.heap.size := Nat.ne_of_lt B0.lt; have flt0 : wa.heap.size < w6.heap.size := B0.lt; have fnf0 : ¬ w6.heap.size = wa.heap.size := Nat.ne_of_gt B0.lt; clear B0)); (try (have B0 := after1 (c := [.int .i64 0, .int .u32 0]) (t := 34) x6; have fc0 : w6.cell? ⟨wa.heap.size, 0, none⟩ = some (.int .i64 0) := B0.cell 0; have fc1 : w6.cell? ⟨wa.heap.size, 1, none⟩ = some (.int .u32 0) := B0.cell 1; have ff0 : w6.frozen? ⟨wa.heap.size, 0, none⟩ = false := B0.frozen 0; have ff1 : w6.frozen? ⟨wa.heap.size, 1, none⟩ = false := B0.frozen 1; have fne0 : ¬ wa.heap.size = w6.heap.size := Nat.ne_of_lt B0.lt; have flt0 : wa.heap.size < w6.heap.size := B0.lt; have fnf0 : ¬ w6.heap.size = wa.heap.size := Nat.ne_of_gt B0.lt; clear B0)); (try (have BB := after2 (c1 := [.slice none 0 0, .slice none 0 0, .slice none 0 0]) (t1 := 25) (c2 := [.int .i64 0, .int .u32 0]) (t2 := 34) x6; have B0 := BB.1; have B1 := BB.2; clear BB; have fc0 : w6.cell? ⟨wa.heap.size, 0, none⟩ = some (.slice none 0 0) := B0.cell 0; have fc1 : w6.cell? ⟨wa.heap.size, 1, none⟩ = some (.slice none 0 0) := B0.cell 1; have fc2 : w6.cell? ⟨wa.heap.size, 2, none⟩ = some (.slice none 0 0) := B0.cell 2; have ff0 : w6.frozen? ⟨wa.heap.size, 0, none⟩ = false := B0.frozen 0; have ff1 : w6.frozen? ⟨wa.heap.size, 1, none⟩ = false := B0.frozen 1; have ff2 : w6.frozen? ⟨wa.heap.size, 2, none⟩ = false := B0.frozen 2; have gc0 : w6.cell? ⟨wa.heap.size + 1, 0, none⟩ = some (.int .i64 0) := B1.cell 0; have gc1 : w6.cell? ⟨wa.heap.size + 1, 1, none⟩ = some (.int .u32 0) := B1.cell 1; have gf0 : w6.frozen? ⟨wa.heap.size + 1, 0, none⟩ = false := B1.frozen 0; have gf1 : w6.frozen? ⟨wa.heap.size + 1, 1, none⟩ = false := B1.frozen 1; clear B1; have fne0 : ¬ wa.heap.size = w6.heap.size := Nat.ne_of_lt B0.lt; have flt0 : wa.heap.size < w6.heap.size := B0.lt; have fnf0 : ¬ w6.heap.size = wa.heap.size := Nat.ne_of_gt B0.lt; clear B0)); (try (have BB := after2 (c1 := [.int .i64 0, .int .u32 0]) (t1 := 34) (c2 := [.slice none 0 0, .slice none 0 0, .slice none 0 0]) (t2 := 25) x6; have B0 := BB.1; have B1 := BB.2; clear BB; have fc0 : w6.cell? ⟨wa.heap.size, 0, none⟩ = some (.int .i64 0) := B0.cell 0; have fc1 : w6.cell? ⟨wa.heap.size, 1, none⟩ = some (.int .u32 0) := B0.cell 1; have ff0 : w6.frozen? ⟨wa.heap.size, 0, none⟩ = false := B0.frozen 0; have ff1 : w6.frozen? ⟨wa.heap.size, 1, none⟩ = false := B0.frozen 1; have gc0 : w6.cell? ⟨wa.heap.size + 1, 0, none⟩ = some (.slice none 0 0) := B1.cell 0; have gc1 : w6.cell? ⟨wa.heap.size + 1, 1, none⟩ = some (.slice none 0 0) := B1.cell 1; have gc2 : w6.cell? ⟨wa.heap.size + 1, 2, none⟩ = some (.slice none 0 0) := B1.cell 2; have gf0 : w6.frozen? ⟨wa.heap.size + 1, 0, none⟩ = false := B1.frozen 0; have gf1 : w6.frozen? ⟨wa.heap.size + 1, 1, none⟩ = false := B1.frozen 1; have gf2 : w6.frozen? ⟨wa.heap.size + 1, 2, none⟩ = false := B1.frozen 2; clear B1; have fne0 : ¬ wa.heap.size = w6.heap.size := Nat.ne_of_lt B0.lt; have flt0 : wa.heap.size < w6.heap.size := B0.lt; have fnf0 : ¬ w6.heap.size = wa.heap.size := Nat.ne_of_gt B0.lt; clear B0))))
              all_goals
                go_wp2_with fail
                go_meet
                (try unfold StF at sz6)
                refine ⟨_, _, U0, U1, U2, u0, u1, u2, rfl, rfl, ?_, ⟨hc1, hc2⟩, nearW hnr6.1 (by first | omega | (simp; done) | (simp; omega)), nearW hnr6.2.1 (by first | omega | (simp; done) | (simp; omega)), nearW hnr6.2.2 (by first | omega | (simp; done) | (simp; omega))⟩
                first
                  | (with_reducible refine way1 x6 sz6 ?_)
                  | (with_reducible refine way2 x6 sz6 ?_)
                  | (with_reducible refine way3 x6 sz6 ?_ ?_)
                  | (with_reducible refine way4 x6 sz6 ?_ ?_ ?_)
                  | (with_reducible refine way5 x6 sz6 ?_ ?_)
                  | (with_reducible refine way6 x6 sz6 ?_ ?_ ?_)
                all_goals (first | (intro g9 hg9; exact ⟨(by rcases hg9 with rfl | rfl <;> first | (simp; done) | (simp; omega)), fun h0 ad9 e9 => (by have h := LOC.out ad9 (Or.inl ⟨h0, e9⟩); rcases hg9 with rfl | rfl <;> first | exact h.1 | exact h.2), fun h0 ad9 e9 => (by have h := LOC.out ad9 (Or.inr (Or.inl ⟨h0, e9⟩)); rcases hg9 with rfl | rfl <;> first | exact h.1 | exact h.2), fun h0 ad9 e9 => (by have h := LOC.out ad9 (Or.inr (Or.inr ⟨h0, e9⟩)); rcases hg9 with rfl | rfl <;> first | exact h.1 | exact h.2)⟩) | (exact ⟨(by first | (simp; done) | (simp; omega)), fun h0 ad9 e9 => (by have := HCB.out ad9 (Or.inl ⟨h0, e9⟩); omega), fun h0 ad9 e9 => (by have := HCB.out ad9 (Or.inr (Or.inl ⟨h0, e9⟩)); omega), fun h0 ad9 e9 => (by have := HCB.out ad9 (Or.inr (Or.inr ⟨h0, e9⟩)); omega)⟩))
            case rest =>
              obtain ⟨gb, gy, V0, V1, V2, t0, t1', t2, rfl, rfl, ⟨hgb, hlb, hly, ⟨e0, e1, e2⟩, ⟨b0, b1⟩, sv, xb⟩, hcv, nr0, nr1, nr2⟩ := hcut
              generalize wc = wb at *
              have hwb : wa.heap.size ≤ wb.heap.size := xb.size
              have hlb2 := block_lt_of_cell e0
              have hly2 := block_lt_of_cell b0
              have XB := Lib.hid xb
              have SV := Lib.hid sv
              have HCV := Lib.hid hcv
              have NR := Lib.hid (And.intro nr0 (And.intro nr1 nr2))
              have HCb : Hid (∀ W, Ext wb W → (W.cell? ⟨gb, 0, none⟩ = some (.slice V0 Z.q.length t0) ∧ W.cell? ⟨gb, 1, none⟩ = some (.slice V1 Z.s.length t1') ∧ W.cell? ⟨gb, 2, none⟩ = some (.slice V2 Z.m.length t2)) ∧ W.cell? ⟨gy, 0, none⟩ = some (.int .i64 p0) ∧ W.cell? ⟨gy, 1, none⟩ = some (.int .u32 p1)) := Lib.hid (fun W x => ⟨⟨(World.cell?_of_block (x.block gb hlb2)).trans e0, (World.cell?_of_block (x.block gb hlb2)).trans e1, (World.cell?_of_block (x.block gb hlb2)).trans e2⟩, (World.cell?_of_block (x.block gy hly2)).trans b0, (World.cell?_of_block (x.block gy hly2)).trans b1⟩)
              clear xb sv hcv nr0 nr1 nr2 e0 e1 e2 b0 b1
              obtain ⟨gR, hR, -, -⟩ := HRk.out wb (XK.out.trans (XA.out.trans XB.out))
              subst hR
              have HR2 : Hid (∀ W, Ext w4 W → W.cell? ⟨gR, k * 2, none⟩ = some (.int .i64 p0) ∧ W.cell? ⟨gR, k * 2 + 1, none⟩ = some (.int .u32 p1)) := Lib.hid (fun W x => by
                obtain ⟨g, hg, h1, h2⟩ := HRk.out W x
                injection hg with hg
                injection hg with hg
                subst hg
                exact ⟨h1, h2⟩)
              have t1 := fun a b W => res_yes a b W
              have HS8 : Hid (∀ W, Ext wb W → Calls Try.prog 11 #[.agg #[.slice U0 Z.q.length u0, .slice U1 Z.s.length u1, .slice U2 Z.m.length u2], .agg #[.slice V0 Z.q.length t0, .slice V1 Z.s.length t1', .slice V2 Z.m.length t2]] W fun e w' => e = .returned (.bool true) ∧ Ext W w') := Lib.hid (fun W x => (same8_ok W U0 U1 U2 V0 V1 V2 _ _ _ u0 u1 u2 _ _ _ t0 t1' t2 Z Z (SU.out W (Fr.of_ext (XB.out.trans x))) (SV.out W (Fr.of_ext x)) ⟨rfl, rfl, rfl⟩ ⟨rfl, rfl, rfl⟩ (by have := SMN.out.q; omega) (by have := SMN.out.s; omega) (by have := SMN.out.m; omega) (by have := SMN.out.q; omega) (by have := SMN.out.s; omega) (by have := SMN.out.m; omega)).mono (by
                rintro e w' ⟨rfl, h⟩
                exact ⟨by simp, h⟩))
              have HMr : Hid (∀ W, Ext wb W → Calls Try.prog 5 #[.agg #[.slice U0 Z.q.length u0, .slice U1 Z.s.length u1, .slice U2 Z.m.length u2]] W fun e w' => e = .returned (.bool true) ∧ Ext W w') := Lib.hid (fun W x => (mRight_ok W U0 U1 U2 _ _ _ u0 u1 u2 Z (SU.out W (Fr.of_ext (XB.out.trans x))) ⟨rfl, rfl, rfl⟩ (by have := SMN.out.s; omega) (by have := SMN.out.m; omega)).mono (by
                rintro e w' ⟨rfl, h⟩
                exact ⟨by rw [HUn.out], h⟩))
              have HSd : Hid (∀ W, Ext wb W → W.cell? ⟨gx, 0, none⟩ = some (.int .i64 p0) ∧ W.cell? ⟨gx, 1, none⟩ = some (.int .u32 p1) ∧ W.cell? ⟨gy, 0, none⟩ = some (.int .i64 p0) ∧ W.cell? ⟨gy, 1, none⟩ = some (.int .u32 p1) ∧ W.cell? ⟨gR, k * 2, none⟩ = some (.int .i64 p0) ∧ W.cell? ⟨gR, k * 2 + 1, none⟩ = some (.int .u32 p1) ∧ W.cell? ⟨ga, 0, none⟩ = some (.slice U0 Z.q.length u0) ∧ W.cell? ⟨ga, 1, none⟩ = some (.slice U1 Z.s.length u1) ∧ W.cell? ⟨ga, 2, none⟩ = some (.slice U2 Z.m.length u2) ∧ W.cell? ⟨gb, 0, none⟩ = some (.slice V0 Z.q.length t0) ∧ W.cell? ⟨gb, 1, none⟩ = some (.slice V1 Z.s.length t1') ∧ W.cell? ⟨gb, 2, none⟩ = some (.slice V2 Z.m.length t2)) := Lib.hid (fun W x => ⟨(HCa.out W (XB.out.trans x)).2.1, (HCa.out W (XB.out.trans x)).2.2, (HCb.out W x).2.1, (HCb.out W x).2.2, (HR2.out W (XK.out.trans (XA.out.trans (XB.out.trans x)))).1, (HR2.out W (XK.out.trans (XA.out.trans (XB.out.trans x)))).2, (HCa.out W (XB.out.trans x)).1.1, (HCa.out W (XB.out.trans x)).1.2.1, (HCa.out W (XB.out.trans x)).1.2.2, (HCb.out W x).1.1, (HCb.out W x).1.2.1, (HCb.out W x).1.2.2⟩)
              clear HRk HAp HRp HRp2 HO3 nb0 nb1 ng0 ng1 nl0 nl1 nl2 nl3 nl4
              have xt : Ext wb wb.drew := (Ext.refl wb).drew
              obtain ⟨q0, q1, q2, q3, q4, q5, q6, q7, q8, q9, q10, q11⟩ := HSd.out wb (Ext.refl _)
              have hk0 : (0 : Int) ≤ (k : Int) := by omega
              have hk1 : decide ((0 : Int) ≤ (k : Int)) = true := by simp
              have hk2 : (k : Int).toNat = k := by omega
              go_wp2_with fail
              go_region_held3 (fun W => W.cell? ⟨gx, 0, none⟩ = some (.int .i64 p0) ∧ W.cell? ⟨gx, 1, none⟩ = some (.int .u32 p1) ∧ W.cell? ⟨gy, 0, none⟩ = some (.int .i64 p0) ∧ W.cell? ⟨gy, 1, none⟩ = some (.int .u32 p1) ∧ W.cell? ⟨gR, k * 2, none⟩ = some (.int .i64 p0) ∧ W.cell? ⟨gR, k * 2 + 1, none⟩ = some (.int .u32 p1) ∧ W.cell? ⟨ga, 0, none⟩ = some (.slice U0 Z.q.length u0) ∧ W.cell? ⟨ga, 1, none⟩ = some (.slice U1 Z.s.length u1) ∧ W.cell? ⟨ga, 2, none⟩ = some (.slice U2 Z.m.length u2) ∧ W.cell? ⟨gb, 0, none⟩ = some (.slice V0 Z.q.length t0) ∧ W.cell? ⟨gb, 1, none⟩ = some (.slice V1 Z.s.length t1') ∧ W.cell? ⟨gb, 2, none⟩ = some (.slice V2 Z.m.length t2)) (first | exact HSd.out _ xt | go_keep) (first
                | (go_at_call 11; refine (HS8.out _ xt).mono ?_; rintro e w6 ⟨rfl, x6⟩; replace xt := xt.trans x6; clear x6)
                | (go_at_call 5; refine (HMr.out _ xt).mono ?_; rintro e w6 ⟨rfl, x6⟩; replace xt := xt.trans x6; clear x6))
              all_goals
                have XT := Lib.hid xt
                clear q0 q1 q2 q3 q4 q5 q6 q7 q8 q9 q10 q11 HS8 HMr xt
                rename_i hHeld
                clear hHeld
                generalize w6 = wz at *
                obtain ⟨⟨r0, r1, r2⟩, -⟩ := HCa.out wz (XB.out.trans XT.out)
                have tkz := TK.out.ext (XA.out.trans (XB.out.trans XT.out))
                have bkz := BK2.out.ext (XB.out.trans XT.out)
                have hgtz := tkz.lt
                have hgrz := bkz.lt
                have hbz := block_lt_of_cell (HCb.out wz XT.out).1.1
                have ngb : gb ≠ gt := by omega
                have s0 : wz.cell? ⟨gt, 0, none⟩ = some (.slice D0 Y.q.length h0) := tkz.cell 0
                have s1 : wz.cell? ⟨gt, 1, none⟩ = some (.slice D1 Y.s.length h1) := tkz.cell 1
                have s2 : wz.cell? ⟨gt, 2, none⟩ = some (.slice D2 Y.m.length h2) := tkz.cell 2
                have i0 : wz.frozen? ⟨gt, 0, none⟩ = false := tkz.frozen 0
                have i1 : wz.frozen? ⟨gt, 1, none⟩ = false := tkz.frozen 1
                have i2 : wz.frozen? ⟨gt, 2, none⟩ = false := tkz.frozen 2
                have TKy := Lib.hid (((tkz.set 0 (.slice U0 Z.q.length u0)).set 1 (.slice U1 Z.s.length u1)).set 2 (.slice U2 Z.m.length u2))
                have F1 : Hid (Fr (fun q => q = gt) wz (((wz.setCell ⟨gt, 0, none⟩ (.slice U0 Z.q.length u0)).setCell ⟨gt, 1, none⟩ (.slice U1 Z.s.length u1)).setCell ⟨gt, 2, none⟩ (.slice U2 Z.m.length u2))) := Lib.hid (fr3 (S6 := fun q => q = gt) rfl _ _ _)
                have BKz := Lib.hid bkz
                clear tkz bkz hgtz hgrz
                go_upto_region 17 with fail
                generalize ((wz.setCell ⟨gt, 0, none⟩ (.slice U0 Z.q.length u0)).setCell ⟨gt, 1, none⟩ (.slice U1 Z.s.length u1)).setCell ⟨gt, 2, none⟩ (.slice U2 Z.m.length u2) = wy at *
                clear r0 r1 r2 s0 s1 s2 i0 i1 i2
                have bky := BKz.out.fr F1.out hne
                have r0 : wy.cell? ⟨gb, 0, none⟩ = some (.slice V0 Z.q.length t0) := (World.cell?_of_block (F1.out.block gb hbz ngb)).trans (HCb.out wz XT.out).1.1
                have r1 : wy.cell? ⟨gb, 1, none⟩ = some (.slice V1 Z.s.length t1') := (World.cell?_of_block (F1.out.block gb hbz ngb)).trans (HCb.out wz XT.out).1.2.1
                have r2 : wy.cell? ⟨gb, 2, none⟩ = some (.slice V2 Z.m.length t2) := (World.cell?_of_block (F1.out.block gb hbz ngb)).trans (HCb.out wz XT.out).1.2.2
                have s0 : wy.cell? ⟨gr, 0, none⟩ = some (.slice C0 Y.q.length f0) := bky.cell 0
                have s1 : wy.cell? ⟨gr, 1, none⟩ = some (.slice C1 Y.s.length f1) := bky.cell 1
                have s2 : wy.cell? ⟨gr, 2, none⟩ = some (.slice C2 Y.m.length f2) := bky.cell 2
                have i0 : wy.frozen? ⟨gr, 0, none⟩ = false := bky.frozen 0
                have i1 : wy.frozen? ⟨gr, 1, none⟩ = false := bky.frozen 1
                have i2 : wy.frozen? ⟨gr, 2, none⟩ = false := bky.frozen 2
                have BKx := Lib.hid (((bky.set 0 (.slice V0 Z.q.length t0)).set 1 (.slice V1 Z.s.length t1')).set 2 (.slice V2 Z.m.length t2))
                have F2 : Hid (Fr (fun q => q = gr) wy (((wy.setCell ⟨gr, 0, none⟩ (.slice V0 Z.q.length t0)).setCell ⟨gr, 1, none⟩ (.slice V1 Z.s.length t1')).setCell ⟨gr, 2, none⟩ (.slice V2 Z.m.length t2))) := Lib.hid (fr3 (S6 := fun q => q = gr) rfl _ _ _)
                clear bky
                have hz1 : 0 ≤ (k : Int) + 1 := by omega
                go_wp2_with fail
                generalize ((wy.setCell ⟨gr, 0, none⟩ (.slice V0 Z.q.length t0)).setCell ⟨gr, 1, none⟩ (.slice V1 Z.s.length t1')).setCell ⟨gr, 2, none⟩ (.slice V2 Z.m.length t2) = wx at *
                have FWx : Hid (Fr (fun q => q = gr ∨ q = gt) wz wx) := Lib.hid ((F1.out.mono (S' := fun q => q = gr ∨ q = gt) (fun _ _ h => Or.inr h)).trans F2.out (fun _ _ h => Or.inl h))
                have hSu := SU.out wx ((Fr.of_ext (XB.out.trans XT.out)).trans FWx.out (fun _ _ h => h))
                have hSv := SV.out wx ((Fr.of_ext XT.out).trans FWx.out (fun _ _ h => h))
                have hXx : Ext w4 wx := FWx.out.ext (XK.out.trans (XA.out.trans (XB.out.trans XT.out))) (fun g hg => by rcases hg with rfl | rfl <;> assumption)
                have hLo : ∀ ad, (0 < Z.q.length ∧ V0 = some ad) ∨ (0 < Z.s.length ∧ V1 = some ad) ∨ (0 < Z.m.length ∧ V2 = some ad) → ad.block ≠ gr ∧ ad.block ≠ gt := fun ad e => by
                  rcases e with ⟨h9, e⟩ | ⟨h9, e⟩ | ⟨h9, e⟩
                  · exact locN NR.out.1 (fun h a0 ea => LOC.out a0 (Or.inl ⟨h, ea⟩)) (by omega) (by omega) h9 ad e
                  · exact locN NR.out.2.1 (fun h a0 ea => LOC.out a0 (Or.inr (Or.inl ⟨h, ea⟩))) (by omega) (by omega) h9 ad e
                  · exact locN NR.out.2.2 (fun h a0 ea => LOC.out a0 (Or.inr (Or.inr ⟨h, ea⟩))) (by omega) (by omega) h9 ad e
                have TKx := TKy.out.fr F2.out (Ne.symm hne)
                have HCx := HCV.out
                have BKx2 := BKx.out
                rw [← HZ.out] at hSu hSv hLo TKx HCx BKx2
                have HG := Lib.hid (show ∃ (C0 C1 C2 D0 D1 D2 : Option Addr) (f0 f1 f2 h0 h1 h2 : Nat), Ext w4 wx ∧ (Blk wx gr 25 [.slice C0 (runS st ops (k + 1)).q.length f0, .slice C1 (runS st ops (k + 1)).s.length f1, .slice C2 (runS st ops (k + 1)).m.length f2] ∧ ((runS st ops (k + 1)).q.length ≤ f0 ∧ f0 ≤ 9223372036854775807) ∧ StAt wx C0 C1 C2 (runS st ops (k + 1)) ∧ (∀ ad, (0 < (runS st ops (k + 1)).q.length ∧ C0 = some ad) ∨ (0 < (runS st ops (k + 1)).s.length ∧ C1 = some ad) ∨ (0 < (runS st ops (k + 1)).m.length ∧ C2 = some ad) → ad.block ≠ gr ∧ ad.block ≠ gt)) ∧ Blk wx gt 25 [.slice D0 (runS st ops (k + 1)).q.length h0, .slice D1 (runS st ops (k + 1)).s.length h1, .slice D2 (runS st ops (k + 1)).m.length h2] ∧ StAt wx D0 D1 D2 (runS st ops (k + 1)) from ⟨_, _, _, _, _, _, _, _, _, _, _, _, hXx, ⟨BKx2, HCx, hSv, hLo⟩, TKx, hSu⟩)
                clear hSu hSv hLo TKx HCx BKx2 hXx r0 r1 r2 s0 s1 s2 i0 i1 i2
                clear XT HCa TKy F1 BKz BKx F2 FWx SU SV NR HCV HCb HR2 HSd HZ SMN HUn t1 XA BK2 HCB XB
                go_roundw
                case rel =>
                  obtain ⟨C0', C1', C2', D0', D1', D2', f0', f1', f2', h0', h1', h2', hr⟩ := HG.out
                  exact ⟨k + 1, C0', C1', C2', D0', D1', D2', f0', f1', f2', h0', h1', h2', by omega, by go_num, hr⟩
                case measure => simp [intOf]; omega
        · have v1 : decide (k < n) = false := by simp; omega
          obtain rfl : k = n := by omega
          have hE := HE.out
          have hz3 : w3.heap.size < w4.heap.size := hge
          have SM2 : Hid (Small E (100 + k)) := Lib.hid (by rw [← hE]; exact SMK.out)
          rw [hE] at BK CP SK
          clear hE TK STK SMK LOC
          have HBE := Lib.hid (fun W (x : Ext wr W) => (BE.out.ext (XK.out.trans x)))
          have HAw := Lib.hid (fun W => awake_ok W)
          have HS8 : Hid (∀ W, Ext wr W → Calls Try.prog 11 #[.agg #[.slice B0 E.q.length d0, .slice B1 E.s.length d1', .slice B2 E.m.length d2'], .agg #[.slice C0 E.q.length f0, .slice C1 E.s.length f1, .slice C2 E.m.length f2]] W fun e w' => e = .returned (.bool true) ∧ Ext W w') := Lib.hid (fun W x => (same8_ok W B0 B1 B2 C0 C1 C2 _ _ _ d0 d1' d2' _ _ _ f0 f1 f2 E E (SE4.out.ext (XK.out.trans x)) (SK.out.ext x) ⟨rfl, rfl, rfl⟩ ⟨rfl, rfl, rfl⟩ (by have := SM2.out.q; omega) (by have := SM2.out.s; omega) (by have := SM2.out.m; omega) (by have := SM2.out.q; omega) (by have := SM2.out.s; omega) (by have := SM2.out.m; omega)).mono (by
            rintro e w' ⟨rfl, h⟩
            exact ⟨by simp, h⟩))
          have HTk := Lib.hid (fun W => takes_ok W B0 B1 B2 E.q.length E.s.length E.m.length d0 d1' d2' (by have := SM2.out.q; omega) (by have := SM2.out.s; omega) (by have := SM2.out.m; omega))
          have a0 : E.q.length ≤ 200 := by have := SM2.out.q; omega
          have a1 : E.s.length ≤ 200 := by have := SM2.out.s; omega
          have a2 : E.m.length ≤ 200 := by have := SM2.out.m; omega
          have HSx : Hid (∀ W, Ext wr W → W.cell? ⟨w3.heap.size, 0, none⟩ = some (.slice B0 E.q.length d0) ∧ W.cell? ⟨w3.heap.size, 1, none⟩ = some (.slice B1 E.s.length d1') ∧ W.cell? ⟨w3.heap.size, 2, none⟩ = some (.slice B2 E.m.length d2') ∧ W.cell? ⟨gr, 0, none⟩ = some (.slice C0 E.q.length f0) ∧ W.cell? ⟨gr, 1, none⟩ = some (.slice C1 E.s.length f1) ∧ W.cell? ⟨gr, 2, none⟩ = some (.slice C2 E.m.length f2)) := Lib.hid (fun W x => ⟨(HBE.out W x).cell 0, (HBE.out W x).cell 1, (HBE.out W x).cell 2, (BK.out.ext x).cell 0, (BK.out.ext x).cell 1, (BK.out.ext x).cell 2⟩)
          generalize E.q.length = l0 at *
          generalize E.s.length = l1 at *
          generalize E.m.length = l2 at *
          have hs1 : IntKind.i64.wrap (1 + (l0 : Int)) = 1 + (l0 : Int) := IntWalk.i64_in _ ⟨by omega, by omega⟩
          have hs2 : IntKind.i64.wrap (1 + (l0 : Int) + (l1 : Int)) = 1 + (l0 : Int) + (l1 : Int) := IntWalk.i64_in _ ⟨by omega, by omega⟩
          have hs3 : IntKind.i64.wrap (1 + (l0 : Int) + (l1 : Int) + (l2 : Int)) = 1 + (l0 : Int) + (l1 : Int) + (l2 : Int) := IntWalk.i64_in _ ⟨by omega, by omega⟩
          have hs4 : ((l0 : Int) + l1 + l2 + 1 == 1 + (l0 : Int) + (l1 : Int) + (l2 : Int)) = true := by simp; omega
          have xt : Ext wr wr.drew := (Ext.refl wr).drew
          obtain ⟨q0, q1, q2, q3, q4, q5⟩ := HSx.out wr (Ext.refl _)
          clear SE4 HR4 HBE HS HLL HO FA GA HCP HSf
          go_wp2_with fail
          go_region_held3 (fun W => W.cell? ⟨w3.heap.size, 0, none⟩ = some (.slice B0 l0 d0) ∧ W.cell? ⟨w3.heap.size, 1, none⟩ = some (.slice B1 l1 d1') ∧ W.cell? ⟨w3.heap.size, 2, none⟩ = some (.slice B2 l2 d2') ∧ W.cell? ⟨gr, 0, none⟩ = some (.slice C0 l0 f0) ∧ W.cell? ⟨gr, 1, none⟩ = some (.slice C1 l1 f1) ∧ W.cell? ⟨gr, 2, none⟩ = some (.slice C2 l2 f2)) (first | exact HSx.out _ xt | go_keep) (first
            | (go_at_call 7; refine (HAw.out _).mono ?_; rintro e w6 ⟨rfl, x6⟩; replace xt := xt.trans x6; clear x6)
            | (go_at_call 11; refine (HS8.out _ xt).mono ?_; rintro e w6 ⟨rfl, x6⟩; replace xt := xt.trans x6; clear x6)
            | (go_at_call 12; refine (HTk.out _).mono ?_; rintro e w6 ⟨rfl, x6⟩; replace xt := xt.trans x6; clear x6))
          all_goals
            go_wp2_with fail
            go_ret
            exact ⟨rfl, X4.out.trans (XK.out.trans xt)⟩

namespace modelRuns
set_option maxRecDepth 100000 in
theorem lifted (os : Os) (started : os.Started) (H : Type) (enc : TypeId × Value → H) :
    ReturnsInHanded {} Try.checked os 3 .any (Rows.modelRunsSpec.pre6 enc Try.prog Try.f3 Rows.modelRunsRow.domain false) (Rows.modelRunsSpec.post enc Try.prog Try.f3 false true false false) := by
  refine returnsInHanded_of_change (C := Try.checked) own started (by kernel_rfl) Try.func3
    (ChangeSpec.witness6 (enc := enc) (C := Try.checked) false ⟨#[], #[.agg #[.slice none 0 0, .slice none 0 0, .slice none 0 0], .slice none 0 0], []⟩ 8 (by kernel_rfl) (by kernel_rfl) (by kernel_rfl) (by kernel_rfl)) ?_
  intro W base args ds gs before hval0 hW hcnd _
  have hval : ∀ (j : Nat) t v, Try.f3.params[j]? = some t → args[j]? = some v → Value.okWide Try.prog W .any base t v := hval0
  have hW' := hW
  obtain ⟨p, q, hA0, hV, rfl, hfz, hnd⟩ := hW
  have hA : DataW.TrodAll enc Try.prog W 0 (fun _ => true) true Try.f3.params.toList args.toList ds p := hA0
  have hlt : ∀ x ∈ p ++ q, x.block < W.heap.size := fun x hx => hW'.lt x hx
  rw [Try.params3] at hA hval
  have hB := hA
  obtain ⟨v0, vs0, d0, ds0, p0, q0, hargs, rfl, rfl, h0, r0⟩ := trodAll_cons hB
  obtain ⟨v1, vs1, d1, ds1, p1, q1, rfl, rfl, rfl, h1, r1⟩ := trodAll_cons r0
  obtain ⟨rfl, rfl, rfl⟩ := trodAll_nil r1
  obtain rfl : args = #[v0, v1] := by cases args; simp_all
  obtain ⟨rfl, rfl⟩ := trodVars_none hV
  obtain ⟨x0A, x0B, x0C, x0a, x0b, x0c, s0, rfl, I0, l0, m0⟩ := view_state Try.underlying25 (by kernel_rfl) (by kernel_rfl) Try.underlying22 Try.underlying22 Try.underlying23 Try.underlying32 (by kernel_rfl) Try.underlying46 (by kernel_rfl) (by kernel_rfl) Try.underlying32 Try.underlying32 (hval 0 25 v0 rfl rfl) h0
  obtain ⟨A1, c1, y1, rfl, lc1, mc1, I1⟩ := view_ops Try.underlying26 Try.underlying38 (by kernel_rfl) (by kernel_rfl) Try.underlying3 Try.underlying32 Try.underlying32 (hval 1 26 v1 rfl rfl) h1
  clear hA0 hval0
  refine (runsLaw_ok W x0A x0B x0C A1 _ _ _ x0a x0b x0c _ c1 s0 y1 I0 ⟨rfl, rfl, rfl⟩ ⟨l0.1, m0.1⟩ (Nat.le_trans l0.2.1 m0.2.1) (Nat.le_trans l0.2.2 m0.2.2) rfl (Nat.le_trans lc1 mc1) I1).mono fun e W' ⟨he, hx⟩ => ?_
  subst he
  exact ⟨_, rfl, post_ext (pv := []) hW' (fun _ _ _ => (trodAll_cons_mk (shut_bool Try.underlying4 _) trodAll_mk0)) (fun sp hsp => trodAll_stays laid hx _ _ _ _ (readable_of (by kernel_rfl)) hA (fun x hx => hlt x (by first | (simp at hx ⊢; exact hx) | simp at hx)) (fun x hx => hsp x (by first | (simp at hx ⊢; exact hx) | simp at hx))) (fun _ _ => rfl) rfl hx (ok_one (by kernel_rfl) rfl (okWide_bool_mk Try.underlying4 _))⟩

theorem over : Rows.modelRunsRow.holds Try.pinned (OpenSpec.ofChange Rows.modelRunsSpec) :=
  OpenClaim.holds_of_wide 3 Try.f3 rfl rfl rfl rfl rfl rfl rfl ⟨rfl, rfl, rfl, rfl, rfl⟩ rfl rfl rfl rfl rfl (by kernel_rfl) Try.func3 (by kernel_rfl)
    (of_decide_eq_true (by kernel_rfl)) (by unfold Func.isWrapper; first | (rw [if_pos (by decide +kernel)]; kernel_rfl) | (rw [if_neg (by decide +kernel)]; exact ⟨rfl, rfl⟩))
    (fun os started H enc _ => lifted os started H enc)
end modelRuns

theorem modelRuns_holds : Rows.ModelRunsSaid := modelRuns.over
#print axioms modelRuns_holds
end Go.Proofs.Ythbngenjcgclgaa
