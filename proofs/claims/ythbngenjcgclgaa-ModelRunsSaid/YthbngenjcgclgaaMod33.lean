/- Layer 8: which states may be, by the document. Conditions: those that each theorem names. -/
import Derived.Test.YthbngenjcgclgaaMod32
namespace Go.Proofs.Ythbngenjcgclgaa
open Go.ChangeShapes Go.WideShapes Go.ChangeAt Go.RowKit
set_option linter.unusedVariables false
set_option maxRecDepth 100000 in
set_option maxHeartbeats 4000000 in
theorem rRight_ok (w : World) (A0 A1 A2 : Option Addr) (n0 n1 n2 c0 c1 c2 : Nat) (st : Sta) (h : StAt w A0 A1 A2 st) (hl : Lens st n0 n1 n2) (m1 : n1 ≤ 1000000) (m2 : n2 ≤ 1000000) :
    Calls Try.prog 6 #[.agg #[.slice A0 n0 c0, .slice A1 n1 c1, .slice A2 n2 c2]] w fun e w' => e = .returned (.bool (upS st)) ∧ Ext w w' := by
  have l0 := Blk.new w 25 [.slice A0 n0 c0, .slice A1 n1 c1, .slice A2 n2 c2]
  have L0 := Lib.hid l0
  have X0 := Lib.hid ((Ext.refl w).alloc (.cells #[.slice A0 n0 c0, .slice A1 n1 c1, .slice A2 n2 c2] 25))
  have HS := Lib.hid h
  have HLL := Lib.hid hl
  clear l0 h hl
  unfold upS
  go_enter Try.func6, Try.ntmps6
  go_wp2_with fail
  go_loopw [3] (fun i wr => ∃ m : Nat, (m = 0 ∨ m < n1) ∧ i = .int .i64 ((m : Int) + 1) ∧ Ext (w.alloc (.cells #[.slice A0 n0 c0, .slice A1 n1 c1, .slice A2 n2 c2] 25)) wr ∧ ∀ j, j < m → st.s.getD j 0 < st.s.getD (j + 1) 0) (fun i _ => n1 - (intOf i).toNat)
  case atStart => exact ⟨0, Or.inl rfl, rfl, Ext.refl _, fun j hj => absurd hj (by omega)⟩
  case round =>
    obtain ⟨m, hm, rfl, xk, hne⟩ := hrel
    have XK := Lib.hid xk
    have NE := Lib.hid hne
    have y1 : wr.cell? ⟨w.heap.size, 1, none⟩ = some (.slice A1 n1 c1) := (L0.out.ext xk).cell 1
    clear xk hne
    by_cases hlt : m + 1 < n1
    · have v1 : decide (m + 1 < n1) = true := by simp; omega
      have v2 : decide ((m : Int) + 1 < (n1 : Int)) = true := by simp; omega
      have hll := HLL.out.s
      obtain ⟨ad, hA, hbl, hc⟩ := (HS.out.s.ext (X0.out.trans XK.out)) (by omega)
      have q0 := hc m (by omega)
      have q1 := hc (m + 1) (by omega)
      rw [show ad.add (m + 1) = ⟨ad.block, ad.off + (m + 1), none⟩ by unfold Addr.add; rw [if_neg (by omega)]] at q1
      generalize hz : st.s.getD m 0 = x at *
      generalize hy : st.s.getD (m + 1) 0 = y at *
      have HZ := Lib.hid hz
      have HY := Lib.hid hy
      clear hc hll hz hy
      subst hA
      have hw : IntKind.i64.wrap ((m : Int) + 1 - 1) = (m : Int) := by rw [IntKind.wrap_i64]; omega
      have hw2 : IntKind.i64.wrap (m : Int) = (m : Int) := by rw [IntKind.wrap_i64]; omega
      have hw3 : ((m : Int) + 1).toNat = m + 1 := by omega
      have hw4 : m < n1 := by omega
      have hw5 : (0 : Int) ≤ (m : Int) + 1 := by omega
      have hw6 : (m : Int) + 1 < (n1 : Int) := by omega
      by_cases hxy : x < y
      · have t1 : decide (y ≤ x) = false := by simp; omega
        have t2 : ¬ y ≤ x := by omega
        go_wp2_with fail
        go_quiet (fail)
        go_wp2_with fail
        go_roundw
        case rel =>
          refine ⟨m + 1, Or.inr (by omega), by go_num, XK.out.trans (by first | exact extN _ _ | exact (Ext.refl _).drew), fun j hj => ?_⟩
          by_cases hjk : j < m
          · exact NE.out j hjk
          · obtain rfl : j = m := by omega
            rw [HZ.out, HY.out]
            exact hxy
        case measure => simp [intOf]; omega
      · have t1 : decide (y ≤ x) = true := by simp; omega
        have HF := Lib.hid (upI_no st.s m (by rw [HLL.out.s]; exact hlt) (by rw [HZ.out, HY.out]; exact hxy))
        go_wp2_with fail
        go_quiet (fail)
        go_wp2_with fail
        rw [HF.out]
        go_ret
        exact ⟨rfl, X0.out.trans (XK.out.trans (by first | exact extN _ _ | exact (Ext.refl _).drew))⟩
    · have v1 : decide (m + 1 < n1) = false := by simp; omega
      have v2 : decide ((m : Int) + 1 < (n1 : Int)) = false := by simp; omega
      have HT := Lib.hid (upI_yes st.s (fun j hj => NE.out j (by rw [HLL.out.s] at hj; omega)))
      generalize wr = wq at *
      have X2 := Lib.hid XK.out
      clear hm NE
      go_wp2_with fail
      clear y1 XK
      go_loopw [4] (fun i wr => ∃ m : Nat, (m = 0 ∨ m < n2) ∧ i = .int .i64 ((m : Int) + 1) ∧ Ext (w.alloc (.cells #[.slice A0 n0 c0, .slice A1 n1 c1, .slice A2 n2 c2] 25)) wr ∧ ∀ j, j < m → (keysP st.m).getD j 0 < (keysP st.m).getD (j + 1) 0) (fun i _ => n2 - (intOf i).toNat)
      case atStart => exact ⟨0, Or.inl rfl, rfl, X2.out, fun j hj => absurd hj (by omega)⟩
      case round =>
        clear X2
        obtain ⟨m', hm, rfl, xk, hne⟩ := hrel
        have XK := Lib.hid xk
        have NE := Lib.hid hne
        have y2 : wr.cell? ⟨w.heap.size, 2, none⟩ = some (.slice A2 n2 c2) := (L0.out.ext xk).cell 2
        clear xk hne hlt v1 v2
        by_cases hlt : m' + 1 < n2
        · have v1 : decide (m' + 1 < n2) = true := by simp; omega
          have v2 : decide ((m' : Int) + 1 < (n2 : Int)) = true := by simp; omega
          have hll := HLL.out.m
          obtain ⟨ad, hA, hbl, hc⟩ := (HS.out.m.ext (X0.out.trans XK.out)) (by omega)
          obtain ⟨q0, -⟩ := hc m' (by omega)
          obtain ⟨q1, -⟩ := hc (m' + 1) (by omega)
          rw [← keysP_get] at q0 q1
          have q1' := q1
          rw [show ad.add ((m' + 1) * 2) = ⟨ad.block, ad.off + (m' + 1) * 2, none⟩ by unfold Addr.add; rw [if_neg (by omega)]] at q1'
          generalize hz : (keysP st.m).getD m' 0 = x at *
          generalize hy : (keysP st.m).getD (m' + 1) 0 = y at *
          have HZ := Lib.hid hz
          have HY := Lib.hid hy
          clear hc hll hz hy
          subst hA
          have hw : IntKind.i64.wrap ((m' : Int) + 1 - 1) = (m' : Int) := by rw [IntKind.wrap_i64]; omega
          have hw2 : IntKind.i64.wrap (m' : Int) = (m' : Int) := by rw [IntKind.wrap_i64]; omega
          have hw3 : ((m' : Int) + 1).toNat = m' + 1 := by omega
          have hw4 : m' < n2 := by omega
          have hw5 : (0 : Int) ≤ (m' : Int) + 1 := by omega
          have hw6 : (m' : Int) + 1 < (n2 : Int) := by omega
          by_cases hxy : x < y
          · have t1 : decide (y ≤ x) = false := by simp; omega
            have t2 : ¬ y ≤ x := by omega
            go_wp2_with fail
            go_quiet (fail)
            go_wp2_with fail
            go_roundw
            case rel =>
              refine ⟨m' + 1, Or.inr (by omega), by go_num, XK.out.trans (by first | exact extN _ _ | exact (Ext.refl _).drew), fun j hj => ?_⟩
              by_cases hjk : j < m'
              · exact NE.out j hjk
              · obtain rfl : j = m' := by omega
                rw [HZ.out, HY.out]
                exact hxy
            case measure => simp [intOf]; omega
          · have t1 : decide (y ≤ x) = true := by simp; omega
            have HF : Hid (upP st.m = false) := Lib.hid (upI_no (keysP st.m) m' (by rw [keysP_len, HLL.out.m]; exact hlt) (by rw [HZ.out, HY.out]; exact hxy))
            go_wp2_with fail
            go_quiet (fail)
            go_wp2_with fail
            rw [HT.out, HF.out]
            go_ret
            exact ⟨rfl, X0.out.trans (XK.out.trans (by first | exact extN _ _ | exact (Ext.refl _).drew))⟩
        · have v1 : decide (m' + 1 < n2) = false := by simp; omega
          have v2 : decide ((m' : Int) + 1 < (n2 : Int)) = false := by simp; omega
          have HT2 : Hid (upP st.m = true) := Lib.hid (upI_yes (keysP st.m) (fun j hj => NE.out j (by rw [keysP_len, HLL.out.m] at hj; omega)))
          go_wp2_with fail
          rw [HT.out, HT2.out]
          go_ret
          exact ⟨rfl, X0.out.trans XK.out⟩
end Go.Proofs.Ythbngenjcgclgaa
