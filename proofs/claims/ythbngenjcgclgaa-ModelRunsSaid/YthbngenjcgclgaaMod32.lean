/- Layer 8: which states may be: model.Right. Conditions: those that each theorem names. -/
import Derived.Test.YthbngenjcgclgaaMod31
import Derived.Lib.QuietBelow
namespace Go.Proofs.Ythbngenjcgclgaa
open Go.ChangeShapes Go.WideShapes Go.ChangeAt Go.RowKit
set_option linter.unusedVariables false
/-- Numbers that rise. -/
def upI : List Int → Bool
  | [] => true
  | [_] => true
  | a :: b :: l => decide (a < b) && upI (b :: l)
theorem upI_yes : ∀ l : List Int, (∀ j, j + 1 < l.length → l.getD j 0 < l.getD (j + 1) 0) → upI l = true
  | [], _ => rfl
  | [_], _ => rfl
  | a :: b :: l, h => by
    have h0 : a < b := h 0 (by simp)
    unfold upI
    rw [decide_eq_true h0, upI_yes (b :: l) (fun j hj => h (j + 1) (by simpa using hj))]
    rfl
theorem upI_no : ∀ (l : List Int) (j : Nat), j + 1 < l.length → ¬ l.getD j 0 < l.getD (j + 1) 0 → upI l = false
  | [], _, h, _ => absurd h (by simp)
  | [_], _, h, _ => absurd h (by simp)
  | a :: b :: l, 0, _, h => by
    have h0 : ¬ a < b := h
    unfold upI
    rw [decide_eq_false h0]
    rfl
  | a :: b :: l, j + 1, hj, h => by
    unfold upI
    rw [upI_no (b :: l) j (by simpa using hj) h, Bool.and_false]
def keysP (ps : List Pr) : List Int := ps.map (fun p => p.1)
theorem keysP_len (ps : List Pr) : (keysP ps).length = ps.length := by unfold keysP; simp
theorem keysP_get : ∀ (ps : List Pr) (j : Nat), (keysP ps).getD j 0 = (ps.getD j (0, 0)).1
  | [], _ => rfl
  | p :: l, 0 => rfl
  | p :: l, j + 1 => keysP_get l j
def upP (ps : List Pr) : Bool := upI (keysP ps)
theorem itself_x (k : Int) (w : World) : Calls Try.prog 14 #[.int .u32 k] w fun e w' => e = .returned (.int .u32 k) ∧ Ext w w' := (itself_ok k w).mono fun _ _ ⟨h1, h2⟩ => ⟨h1, by rw [← h2]; exact Ext.refl _⟩
/-- May a state be? -/
def upS (st : Sta) : Bool := upI st.s && upP st.m
set_option maxRecDepth 100000 in
set_option maxHeartbeats 2000000 in
theorem rises32_ok (w : World) (A : Option Addr) (n c : Nat) (zs : List Int) (hl : zs.length = n) (hn : n ≤ 1000000) (h : Ints w .u32 A zs) :
    Calls Try.prog 13 #[.slice A n c, .func (.func 14) #[] #[]] w fun e w' => e = .returned (.bool (upI zs)) ∧ Ext w w' := by
  have HP := Lib.hid h
  have HL := Lib.hid hl
  clear h hl
  go_enter Try.func13, Try.ntmps13
  go_wp2_with fail
  go_loopw [5] (fun i wr => ∃ m : Nat, (m = 0 ∨ m < n) ∧ i = .int .i64 ((m : Int) + 1) ∧ Ext w wr ∧ ∀ j, j < m → zs.getD j 0 < zs.getD (j + 1) 0) (fun i _ => n - (intOf i).toNat)
  case atStart => exact ⟨0, Or.inl rfl, rfl, Ext.refl _, fun j hj => absurd hj (by omega)⟩
  case round =>
    obtain ⟨m, hm, rfl, xk, hne⟩ := hrel
    have XK := Lib.hid xk
    have NE := Lib.hid hne
    clear xk hne
    by_cases hlt : m + 1 < n
    · have v1 : decide (m + 1 < n) = true := by simp; omega
      have v2 : decide ((m : Int) + 1 < (n : Int)) = true := by simp; omega
      have hll := HL.out
      obtain ⟨ad, hA, hbl, hc⟩ := (HP.out.ext XK.out) (by omega)
      have q0 := hc m (by omega)
      have q1 := hc (m + 1) (by omega)
      rw [show ad.add (m + 1) = ⟨ad.block, ad.off + (m + 1), none⟩ by unfold Addr.add; rw [if_neg (by omega)]] at q1
      generalize hz : zs.getD m 0 = x at *
      generalize hy : zs.getD (m + 1) 0 = y at *
      have HZ := Lib.hid hz
      have HY := Lib.hid hy
      clear hc hll hz hy
      subst hA
      have z0 := fun d os => cell_regrown q0 d os
      have z1 := fun d os => cell_regrown q1 d os
      have HKX := Lib.hid (fun W => itself_x x W)
      have HKY := Lib.hid (fun W => itself_x y W)
      clear q0 q1
      have hw : IntKind.i64.wrap ((m : Int) + 1 - 1) = (m : Int) := by rw [IntKind.wrap_i64]; omega
      have hw2 : IntKind.i64.wrap (m : Int) = (m : Int) := by rw [IntKind.wrap_i64]; omega
      have hw3 : ((m : Int) + 1).toNat = m + 1 := by omega
      have hw4 : m < n := by omega
      have hw5 : (0 : Int) ≤ (m : Int) + 1 := by omega
      have hw6 : (m : Int) + 1 < (n : Int) := by omega
      by_cases hxy : x < y
      · have t1 : decide (y ≤ x) = false := by simp; omega
        have t2 : ¬ y ≤ x := by omega
        go_wp2_with fail
        refine Go.wp_region_quiet_below (by kernel_rfl) (by kernel_rfl) ?_
        repeat (quiet_step (first
          | (with_reducible exact Go.Calls.regrown_of (HKX.out _))
          | (with_reducible exact Go.Calls.regrown_of (HKY.out _))))
        refine wpQuiet_nil ?_
        intro w3 hw'
        have hx2 : Ext wr w3 := by
          obtain ⟨⟨dq, osq⟩, hw2⟩ := hw'
          rw [hw2]
          exact Ext.of (below_regrown _ _ _)
        clear hw' z0 z1
        go_wp2_with fail
        go_roundw
        case rel =>
          refine ⟨m + 1, Or.inr (by omega), by go_num, XK.out.trans hx2, fun j hj => ?_⟩
          by_cases hjk : j < m
          · exact NE.out j hjk
          · obtain rfl : j = m := by omega
            rw [HZ.out, HY.out]
            exact hxy
        case measure => simp [intOf]; omega
      · have t1 : decide (y ≤ x) = true := by simp; omega
        have HF := Lib.hid (upI_no zs m (by rw [HL.out]; exact hlt) (by rw [HZ.out, HY.out]; exact hxy))
        go_wp2_with fail
        refine Go.wp_region_quiet_below (by kernel_rfl) (by kernel_rfl) ?_
        repeat (quiet_step (first
          | (with_reducible exact Go.Calls.regrown_of (HKX.out _))
          | (with_reducible exact Go.Calls.regrown_of (HKY.out _))))
        refine wpQuiet_nil ?_
        intro w3 hw'
        have hx2 : Ext wr w3 := by
          obtain ⟨⟨dq, osq⟩, hw2⟩ := hw'
          rw [hw2]
          exact Ext.of (below_regrown _ _ _)
        clear hw' z0 z1
        go_wp2_with fail
        rw [HF.out]
        go_ret
        exact ⟨rfl, XK.out.trans hx2⟩
    · have v1 : decide (m + 1 < n) = false := by simp; omega
      have v2 : decide ((m : Int) + 1 < (n : Int)) = false := by simp; omega
      have HT := Lib.hid (upI_yes zs (fun j hj => NE.out j (by rw [HL.out] at hj; omega)))
      go_wp2_with fail
      rw [HT.out]
      go_ret
      exact ⟨rfl, XK.out⟩
set_option maxRecDepth 100000 in
set_option maxHeartbeats 2000000 in
theorem risesP_ok (w : World) (A : Option Addr) (n c : Nat) (zs : List Pr) (hl : zs.length = n) (hn : n ≤ 1000000) (h : PAt w A zs) :
    Calls Try.prog 15 #[.slice A n c, .func (.func 16) #[] #[]] w fun e w' => e = .returned (.bool (upP zs)) ∧ Ext w w' := by
  have HP := Lib.hid h
  have HL := Lib.hid hl
  clear h hl
  unfold upP
  go_enter Try.func15, Try.ntmps15
  go_wp2_with fail
  go_loopw [5] (fun i wr => ∃ m : Nat, (m = 0 ∨ m < n) ∧ i = .int .i64 ((m : Int) + 1) ∧ Ext w wr ∧ ∀ j, j < m → (keysP zs).getD j 0 < (keysP zs).getD (j + 1) 0) (fun i _ => n - (intOf i).toNat)
  case atStart => exact ⟨0, Or.inl rfl, rfl, Ext.refl _, fun j hj => absurd hj (by omega)⟩
  case round =>
    obtain ⟨m, hm, rfl, xk, hne⟩ := hrel
    have XK := Lib.hid xk
    have NE := Lib.hid hne
    clear xk hne
    by_cases hlt : m + 1 < n
    · have v1 : decide (m + 1 < n) = true := by simp; omega
      have v2 : decide ((m : Int) + 1 < (n : Int)) = true := by simp; omega
      have hll := HL.out
      obtain ⟨ad, hA, hbl, hc⟩ := (HP.out.ext XK.out) (by omega)
      obtain ⟨q0, q1⟩ := hc m (by omega)
      obtain ⟨q2, q3⟩ := hc (m + 1) (by omega)
      rw [← keysP_get] at q0 q2
      generalize hz : (keysP zs).getD m 0 = x at *
      generalize hy : (keysP zs).getD (m + 1) 0 = y at *
      generalize (zs.getD m (0, 0)).2 = xb at *
      generalize (zs.getD (m + 1) (0, 0)).2 = yb at *
      have HZ := Lib.hid hz
      have HY := Lib.hid hy
      clear hc hll hz hy
      subst hA
      have z0 := fun d os => cell_regrown q0 d os
      have z1 := fun d os => cell_regrown q1 d os
      have z2 := fun d os => cell_regrown q2 d os
      have z3 := fun d os => cell_regrown q3 d os
      have HKX := Lib.hid (fun W => keyOf_ok x xb W)
      have HKY := Lib.hid (fun W => keyOf_ok y yb W)
      have hw : IntKind.i64.wrap ((m : Int) + 1 - 1) = (m : Int) := by rw [IntKind.wrap_i64]; omega
      have hw2 : IntKind.i64.wrap (m : Int) = (m : Int) := by rw [IntKind.wrap_i64]; omega
      have hw3 : ((m : Int) + 1).toNat = m + 1 := by omega
      have hw4 : m < n := by omega
      have hw5 : (0 : Int) ≤ (m : Int) + 1 := by omega
      have hw6 : (m : Int) + 1 < (n : Int) := by omega
      clear q0 q1 q2 q3
      by_cases hxy : x < y
      · have t1 : decide (y ≤ x) = false := by simp; omega
        have t2 : ¬ y ≤ x := by omega
        go_wp2_with fail
        refine Go.wp_region_quiet_below (by kernel_rfl) (by kernel_rfl) ?_
        repeat (quiet_step (first
          | (with_reducible exact Go.Calls.regrown_of (HKX.out _))
          | (with_reducible exact Go.Calls.regrown_of (HKY.out _))))
        refine wpQuiet_nil ?_
        intro w3 hw'
        have hx2 : Ext wr w3 := by
          obtain ⟨⟨dq, osq⟩, hw2⟩ := hw'
          rw [hw2]
          exact Ext.of (below_regrown _ _ _)
        clear hw' z0 z1 z2 z3
        go_wp2_with fail
        go_roundw
        case rel =>
          refine ⟨m + 1, Or.inr (by omega), by go_num, XK.out.trans hx2, fun j hj => ?_⟩
          by_cases hjk : j < m
          · exact NE.out j hjk
          · obtain rfl : j = m := by omega
            rw [HZ.out, HY.out]
            exact hxy
        case measure => simp [intOf]; omega
      · have t1 : decide (y ≤ x) = true := by simp; omega
        have HF := Lib.hid (upI_no (keysP zs) m (by rw [keysP_len, HL.out]; exact hlt) (by rw [HZ.out, HY.out]; exact hxy))
        go_wp2_with fail
        refine Go.wp_region_quiet_below (by kernel_rfl) (by kernel_rfl) ?_
        repeat (quiet_step (first
          | (with_reducible exact Go.Calls.regrown_of (HKX.out _))
          | (with_reducible exact Go.Calls.regrown_of (HKY.out _))))
        refine wpQuiet_nil ?_
        intro w3 hw'
        have hx2 : Ext wr w3 := by
          obtain ⟨⟨dq, osq⟩, hw2⟩ := hw'
          rw [hw2]
          exact Ext.of (below_regrown _ _ _)
        clear hw' z0 z1 z2 z3
        go_wp2_with fail
        rw [HF.out]
        go_ret
        exact ⟨rfl, XK.out.trans hx2⟩
    · have v1 : decide (m + 1 < n) = false := by simp; omega
      have v2 : decide ((m : Int) + 1 < (n : Int)) = false := by simp; omega
      have HT := Lib.hid (upI_yes (keysP zs) (fun j hj => NE.out j (by rw [keysP_len, HL.out] at hj; omega)))
      go_wp2_with fail
      rw [HT.out]
      go_ret
      exact ⟨rfl, XK.out⟩
set_option maxRecDepth 100000 in
set_option maxHeartbeats 1000000 in
theorem mRight_ok (w : World) (A0 A1 A2 : Option Addr) (n0 n1 n2 c0 c1 c2 : Nat) (st : Sta) (h : StAt w A0 A1 A2 st) (hl : Lens st n0 n1 n2) (m1 : n1 ≤ 1000000) (m2 : n2 ≤ 1000000) :
    Calls Try.prog 5 #[.agg #[.slice A0 n0 c0, .slice A1 n1 c1, .slice A2 n2 c2]] w fun e w' => e = .returned (.bool (upS st)) ∧ Ext w w' := by
  have l0 := Blk.new w 25 [.slice A0 n0 c0, .slice A1 n1 c1, .slice A2 n2 c2]
  have L0 := Lib.hid l0
  have e0 := (Ext.refl w).alloc (.cells #[.slice A0 n0 c0, .slice A1 n1 c1, .slice A2 n2 c2] 25)
  have X0 := Lib.hid e0
  have H1 := Lib.hid (rises32_ok _ A1 n1 c1 st.s hl.s m1 (h.s.ext e0))
  have H2 : Hid (∀ W, Ext w W → Calls Try.prog 15 #[.slice A2 n2 c2, .func (.func 16) #[] #[]] W fun e w' => e = .returned (.bool (upP st.m)) ∧ Ext W w') := Lib.hid (fun W x => risesP_ok W A2 n2 c2 st.m hl.m m2 (h.m.ext x))
  unfold upS
  generalize upI st.s = b1 at *
  generalize upP st.m = b2 at *
  clear l0 e0 h hl
  go_enter Try.func5, Try.ntmps5
  go_wp2_with fail
  refine H1.out.mono ?_
  rintro e w1 ⟨rfl, x1⟩
  have k2 : w1.cell? ⟨w.heap.size, 2, none⟩ = some (.slice A2 n2 c2) := (L0.out.ext x1).cell 2
  have X1 := Lib.hid (X0.out.trans x1)
  clear x1
  cases b1
  · go_wp2_with fail
    go_ret
    exact ⟨rfl, X1.out⟩
  · go_wp2_with fail
    refine (H2.out _ X1.out).mono ?_
    rintro e w2 ⟨rfl, x2⟩
    have X2 := Lib.hid (X1.out.trans x2)
    clear x2 k2
    go_wp2_with fail
    go_ret
    exact ⟨rfl, X2.out⟩
end Go.Proofs.Ythbngenjcgclgaa
