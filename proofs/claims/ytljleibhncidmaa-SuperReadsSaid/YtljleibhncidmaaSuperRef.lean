/- The config of a line, by the document's answer. Conditions: those that each theorem names. -/
import Derived.Test.YtljleibhncidmaaSuper5
import Derived.BigQuiet
import Derived.Deep.QuietTactic
namespace Go.Proofs.Ytljleibhncidmaa
open Go.ChangeShapes Go.WideShapes Go.ChangeAt Go.RowKit
set_option linter.unusedVariables false

theorem Ext.drewN {a b : World} (h : Ext a b) (n : Nat) : Ext a (b.drewN n) := h.trans ⟨rfl, rfl, rfl, Nat.le_refl _, fun _ _ => rfl⟩
def RRead (x0 x1 x2 x3 x4 x5 x6 x7 : Int) (w : World) (e : Ending) (w' : World) : Prop :=
  ((IsLine x0 x1 x2 x3 x4 x5 x6 x7 ∧ e = .returned (.tuple #[.agg #[.int .i64 x1, .int .i64 x2, .int .i64 x3, .int .i64 x4], .bool true])) ∨ (¬ IsLine x0 x1 x2 x3 x4 x5 x6 x7 ∧ e = .returned (.tuple #[.agg #[.int .i64 0, .int .i64 0, .int .i64 0, .int .i64 0], .bool false]))) ∧ Ext w w'
/-- A block of four noughts. -/
def Nought4 (w : World) (g : Nat) : Prop := w.heap[g]? = some (.cells #[.int .i64 0, .int .i64 0, .int .i64 0, .int .i64 0] 23 (0, 0))
theorem Nought4.ext {w w' : World} {g : Nat} (h : Nought4 w g) (x : Ext w w') : Nought4 w' g := by
  have hlt : g < w.heap.size := (Array.getElem?_eq_some_iff.1 h).1
  unfold Nought4
  rw [x.block g hlt]; exact h
theorem Nought4.cells {w : World} {g : Nat} (hg : Nought4 w g) : (w.cell? ⟨g, 0, none⟩ = some (.int .i64 0) ∧ w.cell? ⟨g, 1, none⟩ = some (.int .i64 0) ∧ w.cell? ⟨g, 2, none⟩ = some (.int .i64 0) ∧ w.cell? ⟨g, 3, none⟩ = some (.int .i64 0)) ∧ (∀ j, w.frozen? ⟨g, j, none⟩ = false) := by
  refine ⟨⟨?_, ?_, ?_, ?_⟩, fun j => frozen_of_row _ _ _ _ _ hg⟩ <;> (rw [cell_of_row _ _ _ _ _ _ hg]; rfl)
theorem c8_at {w : World} {g : Nat} {x0 x1 x2 x3 x4 x5 x6 x7 : Int} (h : C8 w g x0 x1 x2 x3 x4 x5 x6 x7) (j : Nat) (hj : j < 8) : w.cell? ⟨g, j, none⟩ = some (.int .u64 ([x0, x1, x2, x3, x4, x5, x6, x7].getD j 0)) := by
  obtain ⟨h0, h1, h2, h3, h4, h5, h6, h7⟩ := h
  match j, hj with
  | 0, _ => exact h0
  | 1, _ => exact h1
  | 2, _ => exact h2
  | 3, _ => exact h3
  | 4, _ => exact h4
  | 5, _ => exact h5
  | 6, _ => exact h6
  | 7, _ => exact h7
theorem lists8 {x0 x1 x2 x3 x4 x5 x6 x7 y0 y1 y2 y3 y4 y5 y6 y7 : Int} (h : ∀ j, j < 8 → [y0, y1, y2, y3, y4, y5, y6, y7].getD j 0 = [x0, x1, x2, x3, x4, x5, x6, x7].getD j 0) : y0 = x0 ∧ y1 = x1 ∧ y2 = x2 ∧ y3 = x3 ∧ y4 = x4 ∧ y5 = x5 ∧ y6 = x6 ∧ y7 = x7 :=
  ⟨h 0 (by omega), h 1 (by omega), h 2 (by omega), h 3 (by omega), h 4 (by omega), h 5 (by omega), h 6 (by omega), h 7 (by omega)⟩

set_option maxRecDepth 100000 in
set_option maxHeartbeats 2000000 in
theorem rread_any (x0 x1 x2 x3 x4 x5 x6 x7 : Int) (w : World) (hu : Lim [x0, x1, x2, x3, x4, x5, x6, x7] 18446744073709551616) :
    Calls Try.prog 16 #[.agg #[.int .u64 x0, .int .u64 x1, .int .u64 x2, .int .u64 x3, .int .u64 x4, .int .u64 x5, .int .u64 x6, .int .u64 x7]] w (RRead x0 x1 x2 x3 x4 x5 x6 x7 w) := by
  have HU := Lib.hid hu
  clear hu
  go_enter Try.func16, Try.ntmps16
  go_wp2_with fail
  obtain ⟨W0, HW0⟩ : ∃ W0, Hid ((w.alloc (.cells #[.int .u64 x0, .int .u64 x1, .int .u64 x2, .int .u64 x3, .int .u64 x4, .int .u64 x5, .int .u64 x6, .int .u64 x7] 26)).alloc (.cells #[.int .i64 0, .int .i64 0, .int .i64 0, .int .i64 0] 23) = W0) := ⟨_, Lib.hid rfl⟩
  rw [HW0.out]
  have HQ := Lib.hid (show C8 W0 w.heap.size x0 x1 x2 x3 x4 x5 x6 x7 by rw [← HW0.out]; exact (C8.new w x0 x1 x2 x3 x4 x5 x6 x7 _).alloc (by simp) _)
  have HN := Lib.hid (show Nought4 W0 (w.heap.size + 1) by rw [← HW0.out]; unfold Nought4; simpa using heap_alloc_new (w.alloc _) _)
  have hx0 : Ext w W0 := by rw [← HW0.out]; exact ext2 w _ _
  have hs0 : w.heap.size + 1 < W0.heap.size := by rw [← HW0.out]; simp
  clear HW0
  obtain ⟨XS, HXS⟩ : ∃ XS, Hid ([x0, x1, x2, x3, x4, x5, x6, x7] = XS) := ⟨_, Lib.hid rfl⟩
  go_loop [4] (fun i => ∃ k : Nat, 1 ≤ k ∧ k ≤ 5 ∧ i = .int .i64 k ∧ Hid (∀ j, 1 ≤ j → j < k → XS.getD j 0 ≤ 65536)) (fun i => 5 - (intOf i).toNat)
  case atStart => exact ⟨1, by omega, by omega, rfl, Lib.hid (fun j h1 h2 => by omega)⟩
  case round =>
    obtain ⟨k, hk1, hk5, rfl, HK⟩ := hrel
    by_cases hlt : k ≤ 4
    · have hcell := c8_at HQ.out k (by omega)
      have hyk := HU.out k (by show k < 8; omega)
      rw [HXS.out] at hcell hyk
      have HY := Lib.hid (fun (h : XS.getD k 0 ≤ 65536) j (h1 : 1 ≤ j) (h2 : j < k + 1) => show XS.getD j 0 ≤ 65536 from if e : j = k then by rw [e]; exact h else HK.out j h1 (by omega))
      have HYn := Lib.hid (fun (h : ¬ XS.getD k 0 ≤ 65536) (hl : IsLine x0 x1 x2 x3 x4 x5 x6 x7) => show False by
        obtain ⟨hc, _⟩ := hl
        obtain ⟨h1, h2, h3, h4⟩ := cfg_pos hc
        apply h
        rw [← HXS.out]
        have : k = 1 ∨ k = 2 ∨ k = 3 ∨ k = 4 := by omega
        rcases this with rfl | rfl | rfl | rfl
        · show x1 ≤ _; omega
        · show x2 ≤ _; omega
        · show x3 ≤ _; omega
        · show x4 ≤ _; omega)
      generalize XS.getD k 0 = y at hcell hyk HY HYn
      obtain ⟨hy0, hy1⟩ := hyk
      clear HK
      by_cases hle : y ≤ 65536
      · have hd : ¬ 65536 < y := by omega
        go_wp2_with fail
        go_round
        case rel => exact ⟨k + 1, by omega, by omega, by go_num, Lib.hid (fun j h1 h2 => HY.out hle j h1 h2)⟩
        case measure => simp [intOf]; omega
      · have hd : 65536 < y := by omega
        obtain ⟨⟨r0, r1, r2, r3⟩, rf⟩ := HN.out.cells
        go_wp2_with fail
        refine bodyPost_ret (v := .tuple #[.agg #[.int .i64 0, .int .i64 0, .int .i64 0, .int .i64 0], .bool false]) (by simp [results, Try.results16, go_sem, r0, r1, r2, r3]) rfl ⟨Or.inr ⟨HYn.out hle, rfl⟩, ?_⟩
        repeat (first | exact hx0 | refine Ext.alloc ?_ _ | refine Ext.setCell ?_ (by simp) _)
    · have e5 : k = 5 := by omega
      subst e5
      have g1 : x1 ≤ 65536 := by have := HK.out 1 (by omega) (by omega); rw [← HXS.out] at this; exact this
      have g2 : x2 ≤ 65536 := by have := HK.out 2 (by omega) (by omega); rw [← HXS.out] at this; exact this
      have g3 : x3 ≤ 65536 := by have := HK.out 3 (by omega) (by omega); rw [← HXS.out] at this; exact this
      have g4 : x4 ≤ 65536 := by have := HK.out 4 (by omega) (by omega); rw [← HXS.out] at this; exact this
      have l1 : 0 ≤ x1 := (HU.out 1 (by simp)).1
      have l2 : 0 ≤ x2 := (HU.out 2 (by simp)).1
      have l3 : 0 ≤ x3 := (HU.out 3 (by simp)).1
      have l4 : 0 ≤ x4 := (HU.out 4 (by simp)).1
      clear HK hk1 hk5 hlt
      obtain ⟨c0, c1, c2, c3, c4, c5, c6, c7⟩ := HQ.out
      have hs1 : w.heap.size < W0.heap.size := by omega
      have hn0 : ¬ w.heap.size = W0.heap.size := by omega
      have hn1 : ¬ w.heap.size + 1 = W0.heap.size := by omega
      go_wp2_with fail
      obtain ⟨W1, HW1⟩ : ∃ W1, Hid (W0.alloc (.cells #[.int .i64 x1, .int .i64 x2, .int .i64 x3, .int .i64 x4] 23) = W1) := ⟨_, Lib.hid rfl⟩
      rw [HW1.out]
      have hx1 : Ext W0 W1 := by rw [← HW1.out]; exact (Ext.refl _).alloc _
      have p5 : C4 W1 W0.heap.size x1 x2 x3 x4 := by rw [← HW1.out]; exact C4.new _ _ _ _ _ _
      have hs2 : W0.heap.size < W1.heap.size := by rw [← HW1.out]; simp
      clear HW1 c0 c1 c2 c3 c4 c5 c6 c7
      rcases cfg_em x1 x2 x3 x4 with hcfg | hcfg
      · refine (rright_yes _ _ _ _ _ hcfg).mono ?_
        rintro r w2 ⟨rfl, hx2⟩
        have hx02 := hx1.trans hx2
        have hs3 : W0.heap.size < w2.heap.size := Nat.lt_of_lt_of_le hs2 hx2.size
        have p5' := p5.ext hx2 hs2
        clear p5 hx1 hx2
        obtain ⟨b0, b1, b2, b3⟩ := p5'
        go_wp2_with fail
        refine (cwords_any _ _ _ _ _ hcfg).mono ?_
        rintro r w3 ⟨v, rfl, hrow, hx3⟩
        have p5 := C4.ext ⟨b0, b1, b2, b3⟩ hx3 hs3
        have hs4 : W0.heap.size < w3.heap.size := Nat.lt_of_lt_of_le hs3 hx3.size
        have hx03 := hx02.trans hx3
        clear b0 b1 b2 b3 hs2 hs3
        obtain ⟨g, cg, rfl, hg, hgl, hw⟩ := hrow.at_ (n := 8) rfl (by omega)
        have HWc := Lib.hid hw
        have HP5 := Lib.hid p5
        have HN3 := Lib.hid (HN.out.ext hx03)
        have HQ3 := Lib.hid (HQ.out.ext hx03 hs1)
        clear hw hrow p5 HN HQ hx02 hx3
        obtain ⟨WS, HWS⟩ : ∃ WS, Hid ([7739836655157129782, x1, x2, x3, x4, 1, 0, sum7 7739836655157129782 x1 x2 x3 x4 1 0] = WS) := ⟨_, Lib.hid rfl⟩
        rw [HWS.out] at HWc
        go_wp2_with fail
        go_loopw [7] (fun i wr => ∃ k : Nat, k ≤ 8 ∧ i = .int .i64 k ∧ Ext w3 wr ∧ Hid (∀ j, j < k → WS.getD j 0 = XS.getD j 0)) (fun i _ => 8 - (intOf i).toNat)
        case atStart => exact ⟨0, by omega, rfl, Ext.refl _, Lib.hid (fun j h2 => by omega)⟩
        case round =>
          obtain ⟨k, hk8, rfl, hxr, HK⟩ := hrel
          have hszr : w3.heap.size ≤ wr.heap.size := hxr.size
          by_cases hlt : k < 8
          · have hl := c8_at (HQ3.out.ext hxr (by omega)) k hlt
            rw [HXS.out] at hl
            have hw : wr.cell? ⟨g, k, none⟩ = some (.int .u64 (WS.getD k 0)) := (Below.cell hxr.below (by exact hgl)).trans (HWc.out k hlt)
            have HY := Lib.hid (fun (h : WS.getD k 0 = XS.getD k 0) j (h2 : j < k + 1) => show WS.getD j 0 = XS.getD j 0 from if e : j = k then by rw [e]; exact h else HK.out j (by omega))
            have HYn := Lib.hid (fun (h : ¬ WS.getD k 0 = XS.getD k 0) (hl : IsLine x0 x1 x2 x3 x4 x5 x6 x7) => show False by
              obtain ⟨_, e0, e5, e6, e7⟩ := hl
              apply h
              rw [← HXS.out, ← HWS.out, e0, e5, e6, e7])
            generalize WS.getD k 0 = a at hw HY HYn
            generalize XS.getD k 0 = y at hl HY HYn
            have hk0 : (0 : Int) ≤ (k : Int) := by omega
            have hk1 : (k : Int) < 8 := by omega
            by_cases hay : a = y
            · have HY2 := Lib.hid (HY.out hay)
              have t1 : (a != y) = false := by simp [hay]
              clear HY HYn HK
              have HAY := Lib.hid hay
              clear hay
              go_wp2_with fail
              go_quiet (fail)
              go_wp2_with fail
              go_roundw
              case rel => exact ⟨k + 1, by omega, by go_num, hxr.drewN _, Lib.hid (fun j h2 => HY2.out j h2)⟩
              case measure => simp [intOf]; omega
            · have HY2 := Lib.hid (HYn.out hay)
              have t1 : (a != y) = true := by simp [hay]
              clear HY HYn HK
              have HAY := Lib.hid hay
              clear hay
              obtain ⟨⟨r0, r1, r2, r3⟩, rf⟩ := (HN3.out.ext hxr).cells
              have hxw := ((hx0.trans hx03).trans hxr)
              go_wp2_with fail
              go_quiet (fail)
              go_wp2_with fail
              have hxv := hxw.drewN nq
              refine bodyPost_ret (v := .tuple #[.agg #[.int .i64 0, .int .i64 0, .int .i64 0, .int .i64 0], .bool false]) (by simp [results, Try.results16, go_sem, r0, r1, r2, r3]) rfl ⟨Or.inr ⟨HY2.out, rfl⟩, ?_⟩
              repeat (first | exact hxv | exact hxw | refine Ext.drewN ?_ _ | refine Ext.alloc ?_ _ | refine Ext.setCell ?_ (by simp) _)
          · have HL : Hid (IsLine x0 x1 x2 x3 x4 x5 x6 x7) := Lib.hid (by
              have hall : ∀ j, j < 8 → [7739836655157129782, x1, x2, x3, x4, 1, 0, sum7 7739836655157129782 x1 x2 x3 x4 1 0].getD j 0 = [x0, x1, x2, x3, x4, x5, x6, x7].getD j 0 := fun j hj => by
                rw [HXS.out, HWS.out]
                exact HK.out j (by omega)
              obtain ⟨e0, _, _, _, _, e5, e6, e7⟩ := lists8 hall
              exact ⟨hcfg, e0.symm, e5.symm, e6.symm, e7.symm⟩)
            clear HK
            obtain ⟨⟨r0, r1, r2, r3⟩, rf⟩ := (HN3.out.ext hxr).cells
            obtain ⟨b0, b1, b2, b3⟩ := HP5.out.ext hxr hs4
            have hxw := ((hx0.trans hx03).trans hxr)
            have hn2 : ¬ w.heap.size + 1 = W0.heap.size := by omega
            go_wp2_with fail
            refine bodyPost_ret (v := .tuple #[.agg #[.int .i64 x1, .int .i64 x2, .int .i64 x3, .int .i64 x4], .bool true]) (by simp [results, Try.results16, go_sem, r0, r1, r2, r3]) rfl ⟨Or.inl ⟨HL.out, rfl⟩, ?_⟩
            repeat (first | exact hxw | refine Ext.alloc ?_ _ | refine Ext.setCell ?_ (by simp) _)
      · refine (rright_no _ _ _ _ _ hcfg).mono ?_
        rintro r w2 ⟨rfl, hx2⟩
        have hx02 := hx1.trans hx2
        obtain ⟨⟨r0, r1, r2, r3⟩, rf⟩ := (HN.out.ext hx02).cells
        have hxw := hx0.trans hx02
        go_wp2_with fail
        refine bodyPost_ret (v := .tuple #[.agg #[.int .i64 0, .int .i64 0, .int .i64 0, .int .i64 0], .bool false]) (by simp [results, Try.results16, go_sem, r0, r1, r2, r3]) rfl ⟨Or.inr ⟨fun h => hcfg h.1, rfl⟩, ?_⟩
        repeat (first | exact hxw | refine Ext.alloc ?_ _ | refine Ext.setCell ?_ (by simp) _)
end Go.Proofs.Ytljleibhncidmaa
