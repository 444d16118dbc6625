/- Layer 8: the document's Apply, of the set. Conditions: those that each theorem names. -/
import Derived.Test.YthbngenjcgclgaaMod39
namespace Go.Proofs.Ythbngenjcgclgaa
open Go.ChangeShapes Go.WideShapes Go.ChangeAt Go.RowKit
set_option linter.unusedVariables false
theorem hasI_snoc : ∀ (l : List Int) (x a : Int), hasI (l ++ [x]) a = (hasI l a || (x == a))
  | [], x, a => by
    by_cases h : x = a <;> simp [hasI, h]
  | y :: l, x, a => by
    rw [List.cons_append]
    unfold hasI
    by_cases h : y = a
    · simp [h]
    · rw [if_neg h, if_neg h, hasI_snoc l x a]
theorem left_self (l : List Int) (a : Int) (h : hasI l a = false) : leftI (CutI a) l = l := leftI_allI (fun p hp => by
  unfold CutI
  simp
  intro e
  rw [(hasI_mem l a).2 (by rw [← e]; exact hp)] at h
  cases h)
set_option maxRecDepth 100000 in
set_option maxHeartbeats 4000000 in
theorem rApp3_true (w : World) (A0 A1 A2 : Option Addr) (n0 n1 n2 c0 c1 c2 : Nat) (st : Sta) (a b : Int) (h : StAt w A0 A1 A2 st) (hl : Lens st n0 n1 n2) (m0 : n0 ≤ 1000) (m1 : n1 ≤ 1000) (m2 : n2 ≤ 1000) (hcap : n0 ≤ c0 ∧ c0 ≤ 9223372036854775807) (hh : hasI st.s a = true) :
    Calls Try.prog 10 #[.agg #[.slice A0 n0 c0, .slice A1 n1 c1, .slice A2 n2 c2], .agg #[.int .i64 3, .int .u32 a, .int .u32 b]] w (RPost w A0 A1 A2 n0 n1 n2 (doS st 3 a b).1 (doS st 3 a b).2) := by
  have HH := Lib.hid hh
  have e0 : doS st 3 a b = (st, (3, 0)) := by unfold doS; simp [hh]
  rw [e0]
  clear e0 hh
  have HS := Lib.hid h
  have HLL := Lib.hid hl
  have HCP := Lib.hid hcap
  obtain ⟨k0, k1, k2, k3⟩ := four_new w (.slice A0 n0 c0) (.slice A1 n1 c1) (.slice A2 n2 c2) 3 a b
  have K0 := Lib.hid k0
  have K1 := Lib.hid k1
  have K2 := Lib.hid k2
  have K3 := Lib.hid k3
  have X0 := Lib.hid (((((Ext.refl w).alloc (.cells #[.slice A0 n0 c0, .slice A1 n1 c1, .slice A2 n2 c2] 25)).alloc (.cells #[.int .i64 3, .int .u32 a, .int .u32 b] 38)).alloc (.cells #[.slice none 0 0, .slice none 0 0, .slice none 0 0] 25)).alloc (.cells #[.int .i64 0, .int .u32 0] 34))
  clear h hl k0 k1 k2 k3 hcap
  go_enter Try.func10, Try.ntmps10
  go_upto_region 1 with fail
  generalize ((((w.alloc (.cells #[.slice A0 n0 c0, .slice A1 n1 c1, .slice A2 n2 c2] 25)).alloc (.cells #[.int .i64 3, .int .u32 a, .int .u32 b] 38)).alloc (.cells #[.slice none 0 0, .slice none 0 0, .slice none 0 0] 25)).alloc (.cells #[.int .i64 0, .int .u32 0] 34)) = W0 at *
  have s3 : w.heap.size + 1 + 1 + 1 < W0.heap.size := K3.out.lt
  have e01 : ¬ w.heap.size = w.heap.size + 1 := by omega
  have e02 : ¬ w.heap.size = w.heap.size + 1 + 1 := by omega
  have e03 : ¬ w.heap.size = w.heap.size + 1 + 1 + 1 := by omega
  have e20 : ¬ w.heap.size + 1 + 1 = w.heap.size := by omega
  have e23 : ¬ w.heap.size + 1 + 1 = w.heap.size + 1 + 1 + 1 := by omega
  have e30 : ¬ w.heap.size + 1 + 1 + 1 = w.heap.size := by omega
  have e32 : ¬ w.heap.size + 1 + 1 + 1 = w.heap.size + 1 + 1 := by omega
  have e10 : ¬ w.heap.size + 1 = w.heap.size := by omega
  have y00 : W0.cell? ⟨w.heap.size, 0, none⟩ = some (.slice A0 n0 c0) := (K0.out.ext (Ext.refl W0)).cell 0
  have z00 : W0.frozen? ⟨w.heap.size, 0, none⟩ = false := (K0.out.ext (Ext.refl W0)).frozen 0
  have y01 : W0.cell? ⟨w.heap.size, 1, none⟩ = some (.slice A1 n1 c1) := (K0.out.ext (Ext.refl W0)).cell 1
  have z01 : W0.frozen? ⟨w.heap.size, 1, none⟩ = false := (K0.out.ext (Ext.refl W0)).frozen 1
  have y02 : W0.cell? ⟨w.heap.size, 2, none⟩ = some (.slice A2 n2 c2) := (K0.out.ext (Ext.refl W0)).cell 2
  have z02 : W0.frozen? ⟨w.heap.size, 2, none⟩ = false := (K0.out.ext (Ext.refl W0)).frozen 2
  have y10 : W0.cell? ⟨w.heap.size + 1, 0, none⟩ = some (.int .i64 3) := (K1.out.ext (Ext.refl W0)).cell 0
  have y11 : W0.cell? ⟨w.heap.size + 1, 1, none⟩ = some (.int .u32 a) := (K1.out.ext (Ext.refl W0)).cell 1
  have y12 : W0.cell? ⟨w.heap.size + 1, 2, none⟩ = some (.int .u32 b) := (K1.out.ext (Ext.refl W0)).cell 2
  have y20 : W0.cell? ⟨w.heap.size + 1 + 1, 0, none⟩ = some (.slice none 0 0) := (K2.out.ext (Ext.refl W0)).cell 0
  have z20 : W0.frozen? ⟨w.heap.size + 1 + 1, 0, none⟩ = false := (K2.out.ext (Ext.refl W0)).frozen 0
  have y21 : W0.cell? ⟨w.heap.size + 1 + 1, 1, none⟩ = some (.slice none 0 0) := (K2.out.ext (Ext.refl W0)).cell 1
  have z21 : W0.frozen? ⟨w.heap.size + 1 + 1, 1, none⟩ = false := (K2.out.ext (Ext.refl W0)).frozen 1
  have y22 : W0.cell? ⟨w.heap.size + 1 + 1, 2, none⟩ = some (.slice none 0 0) := (K2.out.ext (Ext.refl W0)).cell 2
  have z22 : W0.frozen? ⟨w.heap.size + 1 + 1, 2, none⟩ = false := (K2.out.ext (Ext.refl W0)).frozen 2
  have y30 : W0.cell? ⟨w.heap.size + 1 + 1 + 1, 0, none⟩ = some (.int .i64 0) := (K3.out.ext (Ext.refl W0)).cell 0
  have z30 : W0.frozen? ⟨w.heap.size + 1 + 1 + 1, 0, none⟩ = false := (K3.out.ext (Ext.refl W0)).frozen 0
  have y31 : W0.cell? ⟨w.heap.size + 1 + 1 + 1, 1, none⟩ = some (.int .u32 0) := (K3.out.ext (Ext.refl W0)).cell 1
  have z31 : W0.frozen? ⟨w.heap.size + 1 + 1 + 1, 1, none⟩ = false := (K3.out.ext (Ext.refl W0)).frozen 1
  go_wp2_with fail
  clear y00 y01 y02 y10 y11 y12 y20 y21 y22 y30 y31 z00 z01 z02 z20 z21 z22 z30 z31
  go_loopw [9, 10] (fun h i wr => ∃ k : Nat, k ≤ n1 ∧ i = .int .i64 k ∧ h = .bool (hasI (st.s.take k) a) ∧ Ext W0 wr) (fun _ i _ => n1 - (intOf i).toNat)
  case atStart => exact ⟨0, Nat.zero_le _, rfl, rfl, Ext.refl _⟩
  case round =>
    obtain ⟨k, hk, rfl, rfl, xk⟩ := hrel
    have XK := Lib.hid xk
    clear xk
    have y01 : wr.cell? ⟨w.heap.size, 1, none⟩ = some (.slice A1 n1 c1) := (K0.out.ext XK.out).cell 1
    have y10 : wr.cell? ⟨w.heap.size + 1, 0, none⟩ = some (.int .i64 3) := (K1.out.ext XK.out).cell 0
    have y11 : wr.cell? ⟨w.heap.size + 1, 1, none⟩ = some (.int .u32 a) := (K1.out.ext XK.out).cell 1
    by_cases hlt : k < n1
    · have v1 : decide (k < n1) = true := by simp; omega
      have hll := HLL.out.s
      obtain ⟨ad, hA, hbl, hc⟩ := (HS.out.s.ext (X0.out.trans XK.out)) (by omega)
      have q0 := hc k (by omega)
      have HT : Hid (hasI (st.s.take (k + 1)) a = (hasI (st.s.take k) a || (st.s.getD k 0 == a))) := Lib.hid (by rw [take_oneI st.s k (by omega)]; exact hasI_snoc _ _ _)
      generalize st.s.getD k 0 = x at *
      obtain ⟨hb, hhb⟩ : ∃ r, hasI (st.s.take k) a = r := ⟨_, rfl⟩
      obtain ⟨xb, hxb⟩ : ∃ r, (x == a) = r := ⟨_, rfl⟩
      rw [hhb, hxb] at HT
      rw [hhb]
      clear hc hll hhb
      subst hA
      cases hb
      · go_wp2_with fail
        go_quiet (fail)
        go_wp2_with fail
        go_roundw
        case rel => exact ⟨k + 1, by omega, by go_num, by rw [HT.out]; rfl, XK.out.trans (extN _ _)⟩
        case measure => simp [intOf]; omega
      · go_wp2_with fail
        go_quiet (fail)
        go_wp2_with fail
        go_roundw
        case rel => exact ⟨k + 1, by omega, by go_num, by rw [HT.out]; rfl, XK.out.trans (extN _ _)⟩
        case measure => simp [intOf]; omega
    · have v1 : decide (k < n1) = false := by simp; omega
      obtain rfl : n1 = k := by omega
      rw [show st.s.take n1 = st.s from List.take_of_length_le (by rw [HLL.out.s]; exact Nat.le_refl _), HH.out]
      generalize wr = w4 at *
      have X4 := Lib.hid XK.out
      have hs4 : w.heap.size + 1 + 1 + 1 < w4.heap.size := Nat.lt_of_lt_of_le s3 X4.out.size
      clear y01 y10 y11 XK
      have y00 : w4.cell? ⟨w.heap.size, 0, none⟩ = some (.slice A0 n0 c0) := (K0.out.ext X4.out).cell 0
      have z00 : w4.frozen? ⟨w.heap.size, 0, none⟩ = false := (K0.out.ext X4.out).frozen 0
      have y01 : w4.cell? ⟨w.heap.size, 1, none⟩ = some (.slice A1 n1 c1) := (K0.out.ext X4.out).cell 1
      have z01 : w4.frozen? ⟨w.heap.size, 1, none⟩ = false := (K0.out.ext X4.out).frozen 1
      have y02 : w4.cell? ⟨w.heap.size, 2, none⟩ = some (.slice A2 n2 c2) := (K0.out.ext X4.out).cell 2
      have z02 : w4.frozen? ⟨w.heap.size, 2, none⟩ = false := (K0.out.ext X4.out).frozen 2
      have y10 : w4.cell? ⟨w.heap.size + 1, 0, none⟩ = some (.int .i64 3) := (K1.out.ext X4.out).cell 0
      have y11 : w4.cell? ⟨w.heap.size + 1, 1, none⟩ = some (.int .u32 a) := (K1.out.ext X4.out).cell 1
      have y12 : w4.cell? ⟨w.heap.size + 1, 2, none⟩ = some (.int .u32 b) := (K1.out.ext X4.out).cell 2
      have y20 : w4.cell? ⟨w.heap.size + 1 + 1, 0, none⟩ = some (.slice none 0 0) := (K2.out.ext X4.out).cell 0
      have z20 : w4.frozen? ⟨w.heap.size + 1 + 1, 0, none⟩ = false := (K2.out.ext X4.out).frozen 0
      have y21 : w4.cell? ⟨w.heap.size + 1 + 1, 1, none⟩ = some (.slice none 0 0) := (K2.out.ext X4.out).cell 1
      have z21 : w4.frozen? ⟨w.heap.size + 1 + 1, 1, none⟩ = false := (K2.out.ext X4.out).frozen 1
      have y22 : w4.cell? ⟨w.heap.size + 1 + 1, 2, none⟩ = some (.slice none 0 0) := (K2.out.ext X4.out).cell 2
      have z22 : w4.frozen? ⟨w.heap.size + 1 + 1, 2, none⟩ = false := (K2.out.ext X4.out).frozen 2
      have y30 : w4.cell? ⟨w.heap.size + 1 + 1 + 1, 0, none⟩ = some (.int .i64 0) := (K3.out.ext X4.out).cell 0
      have z30 : w4.frozen? ⟨w.heap.size + 1 + 1 + 1, 0, none⟩ = false := (K3.out.ext X4.out).frozen 0
      have y31 : w4.cell? ⟨w.heap.size + 1 + 1 + 1, 1, none⟩ = some (.int .u32 0) := (K3.out.ext X4.out).cell 1
      have z31 : w4.frozen? ⟨w.heap.size + 1 + 1 + 1, 1, none⟩ = false := (K3.out.ext X4.out).frozen 1
      go_wp2_with fail
      go_loopw [9, 11, 12] (fun h v i wr => h = .bool true ∧ v = .int .u32 0 ∧ i = .int .i64 0 ∧ w4 = wr) (fun _ _ _ _ => 0)
      case atStart => exact ⟨rfl, rfl, rfl, rfl⟩
      case round =>
        obtain ⟨rfl, rfl, rfl, rfl⟩ := hrel
        go_wp2_with fail
        have W0L := K2.out.ext X4.out
        have W0M := K3.out.ext X4.out
        have hfin : Fr (fun q => q = w.heap.size ∨ q = w.heap.size + 1 + 1 ∨ q = w.heap.size + 1 + 1 + 1) w4 (((((w4.setCell ⟨w.heap.size + 1 + 1, 0, none⟩ (.slice A0 n0 c0)).setCell ⟨w.heap.size + 1 + 1, 1, none⟩ (.slice A1 n1 c1)).setCell ⟨w.heap.size + 1 + 1, 2, none⟩ (.slice A2 n2 c2)).setCell ⟨w.heap.size + 1 + 1 + 1, 0, none⟩ (.int .i64 3)).setCell ⟨w.heap.size + 1 + 1 + 1, 1, none⟩ (.int .u32 0)) ∧ ((((((w4.setCell ⟨w.heap.size + 1 + 1, 0, none⟩ (.slice A0 n0 c0)).setCell ⟨w.heap.size + 1 + 1, 1, none⟩ (.slice A1 n1 c1)).setCell ⟨w.heap.size + 1 + 1, 2, none⟩ (.slice A2 n2 c2)).setCell ⟨w.heap.size + 1 + 1 + 1, 0, none⟩ (.int .i64 3)).setCell ⟨w.heap.size + 1 + 1 + 1, 1, none⟩ (.int .u32 0)).cell? ⟨w.heap.size + 1 + 1, 0, none⟩ = some (.slice A0 n0 c0) ∧ (((((w4.setCell ⟨w.heap.size + 1 + 1, 0, none⟩ (.slice A0 n0 c0)).setCell ⟨w.heap.size + 1 + 1, 1, none⟩ (.slice A1 n1 c1)).setCell ⟨w.heap.size + 1 + 1, 2, none⟩ (.slice A2 n2 c2)).setCell ⟨w.heap.size + 1 + 1 + 1, 0, none⟩ (.int .i64 3)).setCell ⟨w.heap.size + 1 + 1 + 1, 1, none⟩ (.int .u32 0)).cell? ⟨w.heap.size + 1 + 1, 1, none⟩ = some (.slice A1 n1 c1) ∧ (((((w4.setCell ⟨w.heap.size + 1 + 1, 0, none⟩ (.slice A0 n0 c0)).setCell ⟨w.heap.size + 1 + 1, 1, none⟩ (.slice A1 n1 c1)).setCell ⟨w.heap.size + 1 + 1, 2, none⟩ (.slice A2 n2 c2)).setCell ⟨w.heap.size + 1 + 1 + 1, 0, none⟩ (.int .i64 3)).setCell ⟨w.heap.size + 1 + 1 + 1, 1, none⟩ (.int .u32 0)).cell? ⟨w.heap.size + 1 + 1, 2, none⟩ = some (.slice A2 n2 c2) ∧ (((((w4.setCell ⟨w.heap.size + 1 + 1, 0, none⟩ (.slice A0 n0 c0)).setCell ⟨w.heap.size + 1 + 1, 1, none⟩ (.slice A1 n1 c1)).setCell ⟨w.heap.size + 1 + 1, 2, none⟩ (.slice A2 n2 c2)).setCell ⟨w.heap.size + 1 + 1 + 1, 0, none⟩ (.int .i64 3)).setCell ⟨w.heap.size + 1 + 1 + 1, 1, none⟩ (.int .u32 0)).cell? ⟨w.heap.size + 1 + 1 + 1, 0, none⟩ = some (.int .i64 3) ∧ (((((w4.setCell ⟨w.heap.size + 1 + 1, 0, none⟩ (.slice A0 n0 c0)).setCell ⟨w.heap.size + 1 + 1, 1, none⟩ (.slice A1 n1 c1)).setCell ⟨w.heap.size + 1 + 1, 2, none⟩ (.slice A2 n2 c2)).setCell ⟨w.heap.size + 1 + 1 + 1, 0, none⟩ (.int .i64 3)).setCell ⟨w.heap.size + 1 + 1 + 1, 1, none⟩ (.int .u32 0)).cell? ⟨w.heap.size + 1 + 1 + 1, 1, none⟩ = some (.int .u32 0)) := fin_ret w4 w.heap.size none (.slice A0 n0 c0) (.slice A1 n1 c1) (.slice A2 n2 c2) 3 0 W0L W0M
        have fz := hfin.1
        have hcs := hfin.2
        clear hfin W0L W0M
        have X7 := fz.ext (X0.out.trans X4.out) (fun q e => by rcases e with e | e | e <;> omega)
        have S7 : StF w (((((w4.setCell ⟨w.heap.size + 1 + 1, 0, none⟩ (.slice A0 n0 c0)).setCell ⟨w.heap.size + 1 + 1, 1, none⟩ (.slice A1 n1 c1)).setCell ⟨w.heap.size + 1 + 1, 2, none⟩ (.slice A2 n2 c2)).setCell ⟨w.heap.size + 1 + 1 + 1, 0, none⟩ (.int .i64 3)).setCell ⟨w.heap.size + 1 + 1 + 1, 1, none⟩ (.int .u32 0)) A0 A1 A2 n0 n1 n2 A0 A1 A2 st := fun W8 f8 => by
          have fz8 : Fr (fun q => (q = w.heap.size ∨ q = w.heap.size + 1 + 1 ∨ q = w.heap.size + 1 + 1 + 1) ∨ OldB w A0 A1 A2 n0 n1 n2 q) w4 W8 := (fz.mono (fun _ _ h => Or.inl h)).trans f8 (fun _ _ h => Or.inr h)
          exact stF_old HLL.out (HS.out.ext X7) f8
        clear y00 y01 y02 y10 y11 y12 y20 y21 y22 y30 y31 z00 z01 z02 z20 z21 z22 z30 z31
        generalize (((((w4.setCell ⟨w.heap.size + 1 + 1, 0, none⟩ (.slice A0 n0 c0)).setCell ⟨w.heap.size + 1 + 1, 1, none⟩ (.slice A1 n1 c1)).setCell ⟨w.heap.size + 1 + 1, 2, none⟩ (.slice A2 n2 c2)).setCell ⟨w.heap.size + 1 + 1 + 1, 0, none⟩ (.int .i64 3)).setCell ⟨w.heap.size + 1 + 1 + 1, 1, none⟩ (.int .u32 0)) = W7 at *
        obtain ⟨q0, q1, q2, q3, q4⟩ := hcs
        exact bodyPost_ret (v := .tuple #[.agg #[.slice A0 n0 c0, .slice A1 n1 c1, .slice A2 n2 c2], .agg #[.int .i64 3, .int .u32 0]]) (by simp [results, Try.results10, go_sem, q0, q1, q2, q3, q4]) rfl ⟨A0, A1, A2, _, _, _, by rw [HLL.out.q, HLL.out.s, HLL.out.m], ⟨by rw [HLL.out.q]; exact HCP.out.1, HCP.out.2⟩, S7, ⟨fun h0 ad e => Or.inl ⟨(by have h9 : 0 < st.q.length := h0; have := HLL.out.q; omega), ad, e, rfl⟩, fun h0 ad e => Or.inl ⟨(by have h9 : 0 < st.s.length := h0; have := HLL.out.s; omega), ad, e, rfl⟩, fun h0 ad e => Or.inl ⟨(by have h9 : 0 < st.m.length := h0; have := HLL.out.m; omega), ad, e, rfl⟩⟩, X7⟩
set_option maxRecDepth 100000 in
set_option maxHeartbeats 4000000 in
theorem rApp3_false (w : World) (A0 A1 A2 : Option Addr) (n0 n1 n2 c0 c1 c2 : Nat) (st : Sta) (a b : Int) (h : StAt w A0 A1 A2 st) (hl : Lens st n0 n1 n2) (m0 : n0 ≤ 1000) (m1 : n1 ≤ 1000) (m2 : n2 ≤ 1000) (hcap : n0 ≤ c0 ∧ c0 ≤ 9223372036854775807) (hh : hasI st.s a = false) :
    Calls Try.prog 10 #[.agg #[.slice A0 n0 c0, .slice A1 n1 c1, .slice A2 n2 c2], .agg #[.int .i64 3, .int .u32 a, .int .u32 b]] w (RPost w A0 A1 A2 n0 n1 n2 (doS st 3 a b).1 (doS st 3 a b).2) := by
  have HH := Lib.hid hh
  have e0 : doS st 3 a b = (⟨st.q, insI st.s (posI st.s a) a, st.m⟩, (1, 0)) := by unfold doS; simp [hh]
  rw [e0]
  clear e0 hh
  have HS := Lib.hid h
  have HLL := Lib.hid hl
  have HCP := Lib.hid hcap
  obtain ⟨k0, k1, k2, k3⟩ := four_new w (.slice A0 n0 c0) (.slice A1 n1 c1) (.slice A2 n2 c2) 3 a b
  have K0 := Lib.hid k0
  have K1 := Lib.hid k1
  have K2 := Lib.hid k2
  have K3 := Lib.hid k3
  have X0 := Lib.hid (((((Ext.refl w).alloc (.cells #[.slice A0 n0 c0, .slice A1 n1 c1, .slice A2 n2 c2] 25)).alloc (.cells #[.int .i64 3, .int .u32 a, .int .u32 b] 38)).alloc (.cells #[.slice none 0 0, .slice none 0 0, .slice none 0 0] 25)).alloc (.cells #[.int .i64 0, .int .u32 0] 34))
  clear h hl k0 k1 k2 k3 hcap
  go_enter Try.func10, Try.ntmps10
  go_upto_region 1 with fail
  generalize ((((w.alloc (.cells #[.slice A0 n0 c0, .slice A1 n1 c1, .slice A2 n2 c2] 25)).alloc (.cells #[.int .i64 3, .int .u32 a, .int .u32 b] 38)).alloc (.cells #[.slice none 0 0, .slice none 0 0, .slice none 0 0] 25)).alloc (.cells #[.int .i64 0, .int .u32 0] 34)) = W0 at *
  have s3 : w.heap.size + 1 + 1 + 1 < W0.heap.size := K3.out.lt
  have e01 : ¬ w.heap.size = w.heap.size + 1 := by omega
  have e02 : ¬ w.heap.size = w.heap.size + 1 + 1 := by omega
  have e03 : ¬ w.heap.size = w.heap.size + 1 + 1 + 1 := by omega
  have e20 : ¬ w.heap.size + 1 + 1 = w.heap.size := by omega
  have e23 : ¬ w.heap.size + 1 + 1 = w.heap.size + 1 + 1 + 1 := by omega
  have e30 : ¬ w.heap.size + 1 + 1 + 1 = w.heap.size := by omega
  have e32 : ¬ w.heap.size + 1 + 1 + 1 = w.heap.size + 1 + 1 := by omega
  have e10 : ¬ w.heap.size + 1 = w.heap.size := by omega
  have y00 : W0.cell? ⟨w.heap.size, 0, none⟩ = some (.slice A0 n0 c0) := (K0.out.ext (Ext.refl W0)).cell 0
  have z00 : W0.frozen? ⟨w.heap.size, 0, none⟩ = false := (K0.out.ext (Ext.refl W0)).frozen 0
  have y01 : W0.cell? ⟨w.heap.size, 1, none⟩ = some (.slice A1 n1 c1) := (K0.out.ext (Ext.refl W0)).cell 1
  have z01 : W0.frozen? ⟨w.heap.size, 1, none⟩ = false := (K0.out.ext (Ext.refl W0)).frozen 1
  have y02 : W0.cell? ⟨w.heap.size, 2, none⟩ = some (.slice A2 n2 c2) := (K0.out.ext (Ext.refl W0)).cell 2
  have z02 : W0.frozen? ⟨w.heap.size, 2, none⟩ = false := (K0.out.ext (Ext.refl W0)).frozen 2
  have y10 : W0.cell? ⟨w.heap.size + 1, 0, none⟩ = some (.int .i64 3) := (K1.out.ext (Ext.refl W0)).cell 0
  have y11 : W0.cell? ⟨w.heap.size + 1, 1, none⟩ = some (.int .u32 a) := (K1.out.ext (Ext.refl W0)).cell 1
  have y12 : W0.cell? ⟨w.heap.size + 1, 2, none⟩ = some (.int .u32 b) := (K1.out.ext (Ext.refl W0)).cell 2
  have y20 : W0.cell? ⟨w.heap.size + 1 + 1, 0, none⟩ = some (.slice none 0 0) := (K2.out.ext (Ext.refl W0)).cell 0
  have z20 : W0.frozen? ⟨w.heap.size + 1 + 1, 0, none⟩ = false := (K2.out.ext (Ext.refl W0)).frozen 0
  have y21 : W0.cell? ⟨w.heap.size + 1 + 1, 1, none⟩ = some (.slice none 0 0) := (K2.out.ext (Ext.refl W0)).cell 1
  have z21 : W0.frozen? ⟨w.heap.size + 1 + 1, 1, none⟩ = false := (K2.out.ext (Ext.refl W0)).frozen 1
  have y22 : W0.cell? ⟨w.heap.size + 1 + 1, 2, none⟩ = some (.slice none 0 0) := (K2.out.ext (Ext.refl W0)).cell 2
  have z22 : W0.frozen? ⟨w.heap.size + 1 + 1, 2, none⟩ = false := (K2.out.ext (Ext.refl W0)).frozen 2
  have y30 : W0.cell? ⟨w.heap.size + 1 + 1 + 1, 0, none⟩ = some (.int .i64 0) := (K3.out.ext (Ext.refl W0)).cell 0
  have z30 : W0.frozen? ⟨w.heap.size + 1 + 1 + 1, 0, none⟩ = false := (K3.out.ext (Ext.refl W0)).frozen 0
  have y31 : W0.cell? ⟨w.heap.size + 1 + 1 + 1, 1, none⟩ = some (.int .u32 0) := (K3.out.ext (Ext.refl W0)).cell 1
  have z31 : W0.frozen? ⟨w.heap.size + 1 + 1 + 1, 1, none⟩ = false := (K3.out.ext (Ext.refl W0)).frozen 1
  go_wp2_with fail
  clear y00 y01 y02 y10 y11 y12 y20 y21 y22 y30 y31 z00 z01 z02 z20 z21 z22 z30 z31
  go_loopw [9, 10] (fun h i wr => ∃ k : Nat, k ≤ n1 ∧ i = .int .i64 k ∧ h = .bool (hasI (st.s.take k) a) ∧ Ext W0 wr) (fun _ i _ => n1 - (intOf i).toNat)
  case atStart => exact ⟨0, Nat.zero_le _, rfl, rfl, Ext.refl _⟩
  case round =>
    obtain ⟨k, hk, rfl, rfl, xk⟩ := hrel
    have XK := Lib.hid xk
    clear xk
    have y01 : wr.cell? ⟨w.heap.size, 1, none⟩ = some (.slice A1 n1 c1) := (K0.out.ext XK.out).cell 1
    have y10 : wr.cell? ⟨w.heap.size + 1, 0, none⟩ = some (.int .i64 3) := (K1.out.ext XK.out).cell 0
    have y11 : wr.cell? ⟨w.heap.size + 1, 1, none⟩ = some (.int .u32 a) := (K1.out.ext XK.out).cell 1
    by_cases hlt : k < n1
    · have v1 : decide (k < n1) = true := by simp; omega
      have hll := HLL.out.s
      obtain ⟨ad, hA, hbl, hc⟩ := (HS.out.s.ext (X0.out.trans XK.out)) (by omega)
      have q0 := hc k (by omega)
      have HT : Hid (hasI (st.s.take (k + 1)) a = (hasI (st.s.take k) a || (st.s.getD k 0 == a))) := Lib.hid (by rw [take_oneI st.s k (by omega)]; exact hasI_snoc _ _ _)
      generalize st.s.getD k 0 = x at *
      obtain ⟨hb, hhb⟩ : ∃ r, hasI (st.s.take k) a = r := ⟨_, rfl⟩
      obtain ⟨xb, hxb⟩ : ∃ r, (x == a) = r := ⟨_, rfl⟩
      rw [hhb, hxb] at HT
      rw [hhb]
      clear hc hll hhb
      subst hA
      cases hb
      · go_wp2_with fail
        go_quiet (fail)
        go_wp2_with fail
        go_roundw
        case rel => exact ⟨k + 1, by omega, by go_num, by rw [HT.out]; rfl, XK.out.trans (extN _ _)⟩
        case measure => simp [intOf]; omega
      · go_wp2_with fail
        go_quiet (fail)
        go_wp2_with fail
        go_roundw
        case rel => exact ⟨k + 1, by omega, by go_num, by rw [HT.out]; rfl, XK.out.trans (extN _ _)⟩
        case measure => simp [intOf]; omega
    · have v1 : decide (k < n1) = false := by simp; omega
      obtain rfl : n1 = k := by omega
      rw [show st.s.take n1 = st.s from List.take_of_length_le (by rw [HLL.out.s]; exact Nat.le_refl _), HH.out]
      generalize wr = w4 at *
      have X4 := Lib.hid XK.out
      have hs4 : w.heap.size + 1 + 1 + 1 < w4.heap.size := Nat.lt_of_lt_of_le s3 X4.out.size
      clear y01 y10 y11 XK
      have y00 : w4.cell? ⟨w.heap.size, 0, none⟩ = some (.slice A0 n0 c0) := (K0.out.ext X4.out).cell 0
      have z00 : w4.frozen? ⟨w.heap.size, 0, none⟩ = false := (K0.out.ext X4.out).frozen 0
      have y01 : w4.cell? ⟨w.heap.size, 1, none⟩ = some (.slice A1 n1 c1) := (K0.out.ext X4.out).cell 1
      have z01 : w4.frozen? ⟨w.heap.size, 1, none⟩ = false := (K0.out.ext X4.out).frozen 1
      have y02 : w4.cell? ⟨w.heap.size, 2, none⟩ = some (.slice A2 n2 c2) := (K0.out.ext X4.out).cell 2
      have z02 : w4.frozen? ⟨w.heap.size, 2, none⟩ = false := (K0.out.ext X4.out).frozen 2
      have y10 : w4.cell? ⟨w.heap.size + 1, 0, none⟩ = some (.int .i64 3) := (K1.out.ext X4.out).cell 0
      have y11 : w4.cell? ⟨w.heap.size + 1, 1, none⟩ = some (.int .u32 a) := (K1.out.ext X4.out).cell 1
      have y12 : w4.cell? ⟨w.heap.size + 1, 2, none⟩ = some (.int .u32 b) := (K1.out.ext X4.out).cell 2
      have y20 : w4.cell? ⟨w.heap.size + 1 + 1, 0, none⟩ = some (.slice none 0 0) := (K2.out.ext X4.out).cell 0
      have z20 : w4.frozen? ⟨w.heap.size + 1 + 1, 0, none⟩ = false := (K2.out.ext X4.out).frozen 0
      have y21 : w4.cell? ⟨w.heap.size + 1 + 1, 1, none⟩ = some (.slice none 0 0) := (K2.out.ext X4.out).cell 1
      have z21 : w4.frozen? ⟨w.heap.size + 1 + 1, 1, none⟩ = false := (K2.out.ext X4.out).frozen 1
      have y22 : w4.cell? ⟨w.heap.size + 1 + 1, 2, none⟩ = some (.slice none 0 0) := (K2.out.ext X4.out).cell 2
      have z22 : w4.frozen? ⟨w.heap.size + 1 + 1, 2, none⟩ = false := (K2.out.ext X4.out).frozen 2
      have y30 : w4.cell? ⟨w.heap.size + 1 + 1 + 1, 0, none⟩ = some (.int .i64 0) := (K3.out.ext X4.out).cell 0
      have z30 : w4.frozen? ⟨w.heap.size + 1 + 1 + 1, 0, none⟩ = false := (K3.out.ext X4.out).frozen 0
      have y31 : w4.cell? ⟨w.heap.size + 1 + 1 + 1, 1, none⟩ = some (.int .u32 0) := (K3.out.ext X4.out).cell 1
      have z31 : w4.frozen? ⟨w.heap.size + 1 + 1 + 1, 1, none⟩ = false := (K3.out.ext X4.out).frozen 1
      go_wp2_with fail
      go_loopw [9, 11, 12] (fun h v i wr => h = .bool false ∧ v = .int .u32 0 ∧ i = .int .i64 0 ∧ w4 = wr) (fun _ _ _ _ => 0)
      case atStart => exact ⟨rfl, rfl, rfl, rfl⟩
      case round =>
        obtain ⟨rfl, rfl, rfl, rfl⟩ := hrel
        go_wp2_with fail
        refine (keys_ok w4 A1 n1 c1 st.s a true HLL.out.s (by omega) (HS.out.s.ext (X0.out.trans X4.out))).mono ?_
        rintro e w5 ⟨v', rfl, h1, x5'⟩
        rw [keysR_put st.s a HH.out] at h1
        obtain ⟨A', c', hv', -, -, -⟩ := IRow.form h1
        obtain ⟨L, hL⟩ : ∃ L, (insI st.s (posI st.s a) a).length = L := ⟨_, rfl⟩
        rw [hL] at hv'
        subst hv'
        have HLn := Lib.hid hL
        clear hL
        have H1 : Hid (IRow w5 w4.heap.size (.slice A' L c') (insI st.s (posI st.s a) a)) := Lib.hid h1
        have X5 := Lib.hid (X4.out.trans x5')
        clear h1 x5' y00 y01 y02 y10 y11 y12 y20 y21 y22 y30 y31 z00 z01 z02 z20 z21 z22 z30 z31
        have y00 : w5.cell? ⟨w.heap.size, 0, none⟩ = some (.slice A0 n0 c0) := (K0.out.ext X5.out).cell 0
        have z00 : w5.frozen? ⟨w.heap.size, 0, none⟩ = false := (K0.out.ext X5.out).frozen 0
        have y01 : w5.cell? ⟨w.heap.size, 1, none⟩ = some (.slice A1 n1 c1) := (K0.out.ext X5.out).cell 1
        have z01 : w5.frozen? ⟨w.heap.size, 1, none⟩ = false := (K0.out.ext X5.out).frozen 1
        have y02 : w5.cell? ⟨w.heap.size, 2, none⟩ = some (.slice A2 n2 c2) := (K0.out.ext X5.out).cell 2
        have z02 : w5.frozen? ⟨w.heap.size, 2, none⟩ = false := (K0.out.ext X5.out).frozen 2
        have y10 : w5.cell? ⟨w.heap.size + 1, 0, none⟩ = some (.int .i64 3) := (K1.out.ext X5.out).cell 0
        have y11 : w5.cell? ⟨w.heap.size + 1, 1, none⟩ = some (.int .u32 a) := (K1.out.ext X5.out).cell 1
        have y12 : w5.cell? ⟨w.heap.size + 1, 2, none⟩ = some (.int .u32 b) := (K1.out.ext X5.out).cell 2
        have y20 : w5.cell? ⟨w.heap.size + 1 + 1, 0, none⟩ = some (.slice none 0 0) := (K2.out.ext X5.out).cell 0
        have z20 : w5.frozen? ⟨w.heap.size + 1 + 1, 0, none⟩ = false := (K2.out.ext X5.out).frozen 0
        have y21 : w5.cell? ⟨w.heap.size + 1 + 1, 1, none⟩ = some (.slice none 0 0) := (K2.out.ext X5.out).cell 1
        have z21 : w5.frozen? ⟨w.heap.size + 1 + 1, 1, none⟩ = false := (K2.out.ext X5.out).frozen 1
        have y22 : w5.cell? ⟨w.heap.size + 1 + 1, 2, none⟩ = some (.slice none 0 0) := (K2.out.ext X5.out).cell 2
        have z22 : w5.frozen? ⟨w.heap.size + 1 + 1, 2, none⟩ = false := (K2.out.ext X5.out).frozen 2
        have y30 : w5.cell? ⟨w.heap.size + 1 + 1 + 1, 0, none⟩ = some (.int .i64 0) := (K3.out.ext X5.out).cell 0
        have z30 : w5.frozen? ⟨w.heap.size + 1 + 1 + 1, 0, none⟩ = false := (K3.out.ext X5.out).frozen 0
        have y31 : w5.cell? ⟨w.heap.size + 1 + 1 + 1, 1, none⟩ = some (.int .u32 0) := (K3.out.ext X5.out).cell 1
        have z31 : w5.frozen? ⟨w.heap.size + 1 + 1 + 1, 1, none⟩ = false := (K3.out.ext X5.out).frozen 1
        go_wp2_with fail
        have W0L := K2.out.ext X5.out
        have W0M := K3.out.ext X5.out
        have hfin : Fr (fun q => q = w.heap.size ∨ q = w.heap.size + 1 + 1 ∨ q = w.heap.size + 1 + 1 + 1) w5 ((((((w5.setCell ⟨w.heap.size, 1, none⟩ (.slice A' L c')).setCell ⟨w.heap.size + 1 + 1, 0, none⟩ (.slice A0 n0 c0)).setCell ⟨w.heap.size + 1 + 1, 1, none⟩ (.slice A' L c')).setCell ⟨w.heap.size + 1 + 1, 2, none⟩ (.slice A2 n2 c2)).setCell ⟨w.heap.size + 1 + 1 + 1, 0, none⟩ (.int .i64 1)).setCell ⟨w.heap.size + 1 + 1 + 1, 1, none⟩ (.int .u32 0)) ∧ (((((((w5.setCell ⟨w.heap.size, 1, none⟩ (.slice A' L c')).setCell ⟨w.heap.size + 1 + 1, 0, none⟩ (.slice A0 n0 c0)).setCell ⟨w.heap.size + 1 + 1, 1, none⟩ (.slice A' L c')).setCell ⟨w.heap.size + 1 + 1, 2, none⟩ (.slice A2 n2 c2)).setCell ⟨w.heap.size + 1 + 1 + 1, 0, none⟩ (.int .i64 1)).setCell ⟨w.heap.size + 1 + 1 + 1, 1, none⟩ (.int .u32 0)).cell? ⟨w.heap.size + 1 + 1, 0, none⟩ = some (.slice A0 n0 c0) ∧ ((((((w5.setCell ⟨w.heap.size, 1, none⟩ (.slice A' L c')).setCell ⟨w.heap.size + 1 + 1, 0, none⟩ (.slice A0 n0 c0)).setCell ⟨w.heap.size + 1 + 1, 1, none⟩ (.slice A' L c')).setCell ⟨w.heap.size + 1 + 1, 2, none⟩ (.slice A2 n2 c2)).setCell ⟨w.heap.size + 1 + 1 + 1, 0, none⟩ (.int .i64 1)).setCell ⟨w.heap.size + 1 + 1 + 1, 1, none⟩ (.int .u32 0)).cell? ⟨w.heap.size + 1 + 1, 1, none⟩ = some (.slice A' L c') ∧ ((((((w5.setCell ⟨w.heap.size, 1, none⟩ (.slice A' L c')).setCell ⟨w.heap.size + 1 + 1, 0, none⟩ (.slice A0 n0 c0)).setCell ⟨w.heap.size + 1 + 1, 1, none⟩ (.slice A' L c')).setCell ⟨w.heap.size + 1 + 1, 2, none⟩ (.slice A2 n2 c2)).setCell ⟨w.heap.size + 1 + 1 + 1, 0, none⟩ (.int .i64 1)).setCell ⟨w.heap.size + 1 + 1 + 1, 1, none⟩ (.int .u32 0)).cell? ⟨w.heap.size + 1 + 1, 2, none⟩ = some (.slice A2 n2 c2) ∧ ((((((w5.setCell ⟨w.heap.size, 1, none⟩ (.slice A' L c')).setCell ⟨w.heap.size + 1 + 1, 0, none⟩ (.slice A0 n0 c0)).setCell ⟨w.heap.size + 1 + 1, 1, none⟩ (.slice A' L c')).setCell ⟨w.heap.size + 1 + 1, 2, none⟩ (.slice A2 n2 c2)).setCell ⟨w.heap.size + 1 + 1 + 1, 0, none⟩ (.int .i64 1)).setCell ⟨w.heap.size + 1 + 1 + 1, 1, none⟩ (.int .u32 0)).cell? ⟨w.heap.size + 1 + 1 + 1, 0, none⟩ = some (.int .i64 1) ∧ ((((((w5.setCell ⟨w.heap.size, 1, none⟩ (.slice A' L c')).setCell ⟨w.heap.size + 1 + 1, 0, none⟩ (.slice A0 n0 c0)).setCell ⟨w.heap.size + 1 + 1, 1, none⟩ (.slice A' L c')).setCell ⟨w.heap.size + 1 + 1, 2, none⟩ (.slice A2 n2 c2)).setCell ⟨w.heap.size + 1 + 1 + 1, 0, none⟩ (.int .i64 1)).setCell ⟨w.heap.size + 1 + 1 + 1, 1, none⟩ (.int .u32 0)).cell? ⟨w.heap.size + 1 + 1 + 1, 1, none⟩ = some (.int .u32 0)) := fin_ret w5 w.heap.size (some (1, .slice A' L c')) (.slice A0 n0 c0) (.slice A' L c') (.slice A2 n2 c2) 1 0 W0L W0M
        have fz := hfin.1
        have hcs := hfin.2
        clear hfin W0L W0M
        have X7 := fz.ext (X0.out.trans X5.out) (fun q e => by rcases e with e | e | e <;> omega)
        have S7 : StF w ((((((w5.setCell ⟨w.heap.size, 1, none⟩ (.slice A' L c')).setCell ⟨w.heap.size + 1 + 1, 0, none⟩ (.slice A0 n0 c0)).setCell ⟨w.heap.size + 1 + 1, 1, none⟩ (.slice A' L c')).setCell ⟨w.heap.size + 1 + 1, 2, none⟩ (.slice A2 n2 c2)).setCell ⟨w.heap.size + 1 + 1 + 1, 0, none⟩ (.int .i64 1)).setCell ⟨w.heap.size + 1 + 1 + 1, 1, none⟩ (.int .u32 0)) A0 A1 A2 n0 n1 n2 A0 A' A2 ⟨st.q, insI st.s (posI st.s a) a, st.m⟩ := fun W8 f8 => by
          have fz8 : Fr (fun q => (q = w.heap.size ∨ q = w.heap.size + 1 + 1 ∨ q = w.heap.size + 1 + 1 + 1) ∨ OldB w A0 A1 A2 n0 n1 n2 q) w5 W8 := (fz.mono (fun _ _ h => Or.inl h)).trans f8 (fun _ _ h => Or.inr h)
          exact ⟨ints_frN (HS.out.q.ext X7) f8 (fun h0 ad e hs => hs.2.1 (by rw [← HLL.out.q]; exact h0) ad e rfl), row_ints (H1.out.fr fz8 (fun q hq e => by have := (World.ownsRow.lt H1.out q hq).1; rcases e with (e | e | e) | e <;> first | omega | (have := e.1; omega))), pat_frN (HS.out.m.ext X7) f8 (fun h0 ad e hs => hs.2.2.2 (by rw [← HLL.out.m]; exact h0) ad e rfl)⟩
        clear y00 y01 y02 y10 y11 y12 y20 y21 y22 y30 y31 z00 z01 z02 z20 z21 z22 z30 z31
        generalize ((((((w5.setCell ⟨w.heap.size, 1, none⟩ (.slice A' L c')).setCell ⟨w.heap.size + 1 + 1, 0, none⟩ (.slice A0 n0 c0)).setCell ⟨w.heap.size + 1 + 1, 1, none⟩ (.slice A' L c')).setCell ⟨w.heap.size + 1 + 1, 2, none⟩ (.slice A2 n2 c2)).setCell ⟨w.heap.size + 1 + 1 + 1, 0, none⟩ (.int .i64 1)).setCell ⟨w.heap.size + 1 + 1 + 1, 1, none⟩ (.int .u32 0)) = W7 at *
        obtain ⟨q0, q1, q2, q3, q4⟩ := hcs
        exact bodyPost_ret (v := .tuple #[.agg #[.slice A0 n0 c0, .slice A' L c', .slice A2 n2 c2], .agg #[.int .i64 1, .int .u32 0]]) (by simp [results, Try.results10, go_sem, q0, q1, q2, q3, q4]) rfl ⟨A0, A', A2, _, _, _, by show _ = Ending.returned (.tuple #[.agg #[.slice A0 st.q.length c0, .slice A' (insI st.s (posI st.s a) a).length c', .slice A2 st.m.length c2], _]); rw [HLn.out, HLL.out.q, HLL.out.m], ⟨by rw [HLL.out.q]; exact HCP.out.1, HCP.out.2⟩, S7, ⟨fun h0 ad e => Or.inl ⟨(by have h9 : 0 < st.q.length := h0; have := HLL.out.q; omega), ad, e, rfl⟩, fun h0 ad e => Or.inr (by have := (World.ownsRow.lt H1.out ad.block (own_some e)).1; omega), fun h0 ad e => Or.inl ⟨(by have h9 : 0 < st.m.length := h0; have := HLL.out.m; omega), ad, e, rfl⟩⟩, X7⟩
set_option maxRecDepth 100000 in
set_option maxHeartbeats 4000000 in
theorem rApp4_true (w : World) (A0 A1 A2 : Option Addr) (n0 n1 n2 c0 c1 c2 : Nat) (st : Sta) (a b : Int) (h : StAt w A0 A1 A2 st) (hl : Lens st n0 n1 n2) (m0 : n0 ≤ 1000) (m1 : n1 ≤ 1000) (m2 : n2 ≤ 1000) (hcap : n0 ≤ c0 ∧ c0 ≤ 9223372036854775807) (hh : hasI st.s a = true) :
    Calls Try.prog 10 #[.agg #[.slice A0 n0 c0, .slice A1 n1 c1, .slice A2 n2 c2], .agg #[.int .i64 4, .int .u32 a, .int .u32 b]] w (RPost w A0 A1 A2 n0 n1 n2 (doS st 4 a b).1 (doS st 4 a b).2) := by
  have HH := Lib.hid hh
  have e0 : doS st 4 a b = (⟨st.q, leftI (CutI a) st.s, st.m⟩, (1, 0)) := by
    show ((⟨st.q, leftI (CutI a) st.s, st.m⟩ : Sta), ((toldK (hasI st.s a) 1 4, 0) : Rs)) = _
    rw [hh]
    rfl
  rw [e0]
  clear e0 hh
  have HS := Lib.hid h
  have HLL := Lib.hid hl
  have HCP := Lib.hid hcap
  obtain ⟨k0, k1, k2, k3⟩ := four_new w (.slice A0 n0 c0) (.slice A1 n1 c1) (.slice A2 n2 c2) 4 a b
  have K0 := Lib.hid k0
  have K1 := Lib.hid k1
  have K2 := Lib.hid k2
  have K3 := Lib.hid k3
  have X0 := Lib.hid (((((Ext.refl w).alloc (.cells #[.slice A0 n0 c0, .slice A1 n1 c1, .slice A2 n2 c2] 25)).alloc (.cells #[.int .i64 4, .int .u32 a, .int .u32 b] 38)).alloc (.cells #[.slice none 0 0, .slice none 0 0, .slice none 0 0] 25)).alloc (.cells #[.int .i64 0, .int .u32 0] 34))
  clear h hl k0 k1 k2 k3 hcap
  go_enter Try.func10, Try.ntmps10
  go_upto_region 1 with fail
  generalize ((((w.alloc (.cells #[.slice A0 n0 c0, .slice A1 n1 c1, .slice A2 n2 c2] 25)).alloc (.cells #[.int .i64 4, .int .u32 a, .int .u32 b] 38)).alloc (.cells #[.slice none 0 0, .slice none 0 0, .slice none 0 0] 25)).alloc (.cells #[.int .i64 0, .int .u32 0] 34)) = W0 at *
  have s3 : w.heap.size + 1 + 1 + 1 < W0.heap.size := K3.out.lt
  have e01 : ¬ w.heap.size = w.heap.size + 1 := by omega
  have e02 : ¬ w.heap.size = w.heap.size + 1 + 1 := by omega
  have e03 : ¬ w.heap.size = w.heap.size + 1 + 1 + 1 := by omega
  have e20 : ¬ w.heap.size + 1 + 1 = w.heap.size := by omega
  have e23 : ¬ w.heap.size + 1 + 1 = w.heap.size + 1 + 1 + 1 := by omega
  have e30 : ¬ w.heap.size + 1 + 1 + 1 = w.heap.size := by omega
  have e32 : ¬ w.heap.size + 1 + 1 + 1 = w.heap.size + 1 + 1 := by omega
  have e10 : ¬ w.heap.size + 1 = w.heap.size := by omega
  have y00 : W0.cell? ⟨w.heap.size, 0, none⟩ = some (.slice A0 n0 c0) := (K0.out.ext (Ext.refl W0)).cell 0
  have z00 : W0.frozen? ⟨w.heap.size, 0, none⟩ = false := (K0.out.ext (Ext.refl W0)).frozen 0
  have y01 : W0.cell? ⟨w.heap.size, 1, none⟩ = some (.slice A1 n1 c1) := (K0.out.ext (Ext.refl W0)).cell 1
  have z01 : W0.frozen? ⟨w.heap.size, 1, none⟩ = false := (K0.out.ext (Ext.refl W0)).frozen 1
  have y02 : W0.cell? ⟨w.heap.size, 2, none⟩ = some (.slice A2 n2 c2) := (K0.out.ext (Ext.refl W0)).cell 2
  have z02 : W0.frozen? ⟨w.heap.size, 2, none⟩ = false := (K0.out.ext (Ext.refl W0)).frozen 2
  have y10 : W0.cell? ⟨w.heap.size + 1, 0, none⟩ = some (.int .i64 4) := (K1.out.ext (Ext.refl W0)).cell 0
  have y11 : W0.cell? ⟨w.heap.size + 1, 1, none⟩ = some (.int .u32 a) := (K1.out.ext (Ext.refl W0)).cell 1
  have y12 : W0.cell? ⟨w.heap.size + 1, 2, none⟩ = some (.int .u32 b) := (K1.out.ext (Ext.refl W0)).cell 2
  have y20 : W0.cell? ⟨w.heap.size + 1 + 1, 0, none⟩ = some (.slice none 0 0) := (K2.out.ext (Ext.refl W0)).cell 0
  have z20 : W0.frozen? ⟨w.heap.size + 1 + 1, 0, none⟩ = false := (K2.out.ext (Ext.refl W0)).frozen 0
  have y21 : W0.cell? ⟨w.heap.size + 1 + 1, 1, none⟩ = some (.slice none 0 0) := (K2.out.ext (Ext.refl W0)).cell 1
  have z21 : W0.frozen? ⟨w.heap.size + 1 + 1, 1, none⟩ = false := (K2.out.ext (Ext.refl W0)).frozen 1
  have y22 : W0.cell? ⟨w.heap.size + 1 + 1, 2, none⟩ = some (.slice none 0 0) := (K2.out.ext (Ext.refl W0)).cell 2
  have z22 : W0.frozen? ⟨w.heap.size + 1 + 1, 2, none⟩ = false := (K2.out.ext (Ext.refl W0)).frozen 2
  have y30 : W0.cell? ⟨w.heap.size + 1 + 1 + 1, 0, none⟩ = some (.int .i64 0) := (K3.out.ext (Ext.refl W0)).cell 0
  have z30 : W0.frozen? ⟨w.heap.size + 1 + 1 + 1, 0, none⟩ = false := (K3.out.ext (Ext.refl W0)).frozen 0
  have y31 : W0.cell? ⟨w.heap.size + 1 + 1 + 1, 1, none⟩ = some (.int .u32 0) := (K3.out.ext (Ext.refl W0)).cell 1
  have z31 : W0.frozen? ⟨w.heap.size + 1 + 1 + 1, 1, none⟩ = false := (K3.out.ext (Ext.refl W0)).frozen 1
  go_wp2_with fail
  clear y00 y01 y02 y10 y11 y12 y20 y21 y22 y30 y31 z00 z01 z02 z20 z21 z22 z30 z31
  go_loopw [9, 10] (fun h i wr => ∃ k : Nat, k ≤ n1 ∧ i = .int .i64 k ∧ h = .bool (hasI (st.s.take k) a) ∧ Ext W0 wr) (fun _ i _ => n1 - (intOf i).toNat)
  case atStart => exact ⟨0, Nat.zero_le _, rfl, rfl, Ext.refl _⟩
  case round =>
    obtain ⟨k, hk, rfl, rfl, xk⟩ := hrel
    have XK := Lib.hid xk
    clear xk
    have y01 : wr.cell? ⟨w.heap.size, 1, none⟩ = some (.slice A1 n1 c1) := (K0.out.ext XK.out).cell 1
    have y10 : wr.cell? ⟨w.heap.size + 1, 0, none⟩ = some (.int .i64 4) := (K1.out.ext XK.out).cell 0
    have y11 : wr.cell? ⟨w.heap.size + 1, 1, none⟩ = some (.int .u32 a) := (K1.out.ext XK.out).cell 1
    by_cases hlt : k < n1
    · have v1 : decide (k < n1) = true := by simp; omega
      have hll := HLL.out.s
      obtain ⟨ad, hA, hbl, hc⟩ := (HS.out.s.ext (X0.out.trans XK.out)) (by omega)
      have q0 := hc k (by omega)
      have HT : Hid (hasI (st.s.take (k + 1)) a = (hasI (st.s.take k) a || (st.s.getD k 0 == a))) := Lib.hid (by rw [take_oneI st.s k (by omega)]; exact hasI_snoc _ _ _)
      generalize st.s.getD k 0 = x at *
      obtain ⟨hb, hhb⟩ : ∃ r, hasI (st.s.take k) a = r := ⟨_, rfl⟩
      obtain ⟨xb, hxb⟩ : ∃ r, (x == a) = r := ⟨_, rfl⟩
      rw [hhb, hxb] at HT
      rw [hhb]
      clear hc hll hhb
      subst hA
      cases hb
      · go_wp2_with fail
        go_quiet (fail)
        go_wp2_with fail
        go_roundw
        case rel => exact ⟨k + 1, by omega, by go_num, by rw [HT.out]; rfl, XK.out.trans (extN _ _)⟩
        case measure => simp [intOf]; omega
      · go_wp2_with fail
        go_quiet (fail)
        go_wp2_with fail
        go_roundw
        case rel => exact ⟨k + 1, by omega, by go_num, by rw [HT.out]; rfl, XK.out.trans (extN _ _)⟩
        case measure => simp [intOf]; omega
    · have v1 : decide (k < n1) = false := by simp; omega
      obtain rfl : n1 = k := by omega
      rw [show st.s.take n1 = st.s from List.take_of_length_le (by rw [HLL.out.s]; exact Nat.le_refl _), HH.out]
      generalize wr = w4 at *
      have X4 := Lib.hid XK.out
      have hs4 : w.heap.size + 1 + 1 + 1 < w4.heap.size := Nat.lt_of_lt_of_le s3 X4.out.size
      clear y01 y10 y11 XK
      have y00 : w4.cell? ⟨w.heap.size, 0, none⟩ = some (.slice A0 n0 c0) := (K0.out.ext X4.out).cell 0
      have z00 : w4.frozen? ⟨w.heap.size, 0, none⟩ = false := (K0.out.ext X4.out).frozen 0
      have y01 : w4.cell? ⟨w.heap.size, 1, none⟩ = some (.slice A1 n1 c1) := (K0.out.ext X4.out).cell 1
      have z01 : w4.frozen? ⟨w.heap.size, 1, none⟩ = false := (K0.out.ext X4.out).frozen 1
      have y02 : w4.cell? ⟨w.heap.size, 2, none⟩ = some (.slice A2 n2 c2) := (K0.out.ext X4.out).cell 2
      have z02 : w4.frozen? ⟨w.heap.size, 2, none⟩ = false := (K0.out.ext X4.out).frozen 2
      have y10 : w4.cell? ⟨w.heap.size + 1, 0, none⟩ = some (.int .i64 4) := (K1.out.ext X4.out).cell 0
      have y11 : w4.cell? ⟨w.heap.size + 1, 1, none⟩ = some (.int .u32 a) := (K1.out.ext X4.out).cell 1
      have y12 : w4.cell? ⟨w.heap.size + 1, 2, none⟩ = some (.int .u32 b) := (K1.out.ext X4.out).cell 2
      have y20 : w4.cell? ⟨w.heap.size + 1 + 1, 0, none⟩ = some (.slice none 0 0) := (K2.out.ext X4.out).cell 0
      have z20 : w4.frozen? ⟨w.heap.size + 1 + 1, 0, none⟩ = false := (K2.out.ext X4.out).frozen 0
      have y21 : w4.cell? ⟨w.heap.size + 1 + 1, 1, none⟩ = some (.slice none 0 0) := (K2.out.ext X4.out).cell 1
      have z21 : w4.frozen? ⟨w.heap.size + 1 + 1, 1, none⟩ = false := (K2.out.ext X4.out).frozen 1
      have y22 : w4.cell? ⟨w.heap.size + 1 + 1, 2, none⟩ = some (.slice none 0 0) := (K2.out.ext X4.out).cell 2
      have z22 : w4.frozen? ⟨w.heap.size + 1 + 1, 2, none⟩ = false := (K2.out.ext X4.out).frozen 2
      have y30 : w4.cell? ⟨w.heap.size + 1 + 1 + 1, 0, none⟩ = some (.int .i64 0) := (K3.out.ext X4.out).cell 0
      have z30 : w4.frozen? ⟨w.heap.size + 1 + 1 + 1, 0, none⟩ = false := (K3.out.ext X4.out).frozen 0
      have y31 : w4.cell? ⟨w.heap.size + 1 + 1 + 1, 1, none⟩ = some (.int .u32 0) := (K3.out.ext X4.out).cell 1
      have z31 : w4.frozen? ⟨w.heap.size + 1 + 1 + 1, 1, none⟩ = false := (K3.out.ext X4.out).frozen 1
      go_wp2_with fail
      go_loopw [9, 11, 12] (fun h v i wr => h = .bool true ∧ v = .int .u32 0 ∧ i = .int .i64 0 ∧ w4 = wr) (fun _ _ _ _ => 0)
      case atStart => exact ⟨rfl, rfl, rfl, rfl⟩
      case round =>
        obtain ⟨rfl, rfl, rfl, rfl⟩ := hrel
        go_wp2_with fail
        refine (keys_ok w4 A1 n1 c1 st.s a false HLL.out.s (by omega) (HS.out.s.ext (X0.out.trans X4.out))).mono ?_
        rintro e w5 ⟨v', rfl, h1, x5'⟩
        rw [keysR_cut st.s a] at h1
        obtain ⟨A', c', hv', -, -, -⟩ := IRow.form h1
        obtain ⟨L, hL⟩ : ∃ L, (leftI (CutI a) st.s).length = L := ⟨_, rfl⟩
        rw [hL] at hv'
        subst hv'
        have HLn := Lib.hid hL
        clear hL
        have H1 : Hid (IRow w5 w4.heap.size (.slice A' L c') (leftI (CutI a) st.s)) := Lib.hid h1
        have X5 := Lib.hid (X4.out.trans x5')
        clear h1 x5' y00 y01 y02 y10 y11 y12 y20 y21 y22 y30 y31 z00 z01 z02 z20 z21 z22 z30 z31
        have y00 : w5.cell? ⟨w.heap.size, 0, none⟩ = some (.slice A0 n0 c0) := (K0.out.ext X5.out).cell 0
        have z00 : w5.frozen? ⟨w.heap.size, 0, none⟩ = false := (K0.out.ext X5.out).frozen 0
        have y01 : w5.cell? ⟨w.heap.size, 1, none⟩ = some (.slice A1 n1 c1) := (K0.out.ext X5.out).cell 1
        have z01 : w5.frozen? ⟨w.heap.size, 1, none⟩ = false := (K0.out.ext X5.out).frozen 1
        have y02 : w5.cell? ⟨w.heap.size, 2, none⟩ = some (.slice A2 n2 c2) := (K0.out.ext X5.out).cell 2
        have z02 : w5.frozen? ⟨w.heap.size, 2, none⟩ = false := (K0.out.ext X5.out).frozen 2
        have y10 : w5.cell? ⟨w.heap.size + 1, 0, none⟩ = some (.int .i64 4) := (K1.out.ext X5.out).cell 0
        have y11 : w5.cell? ⟨w.heap.size + 1, 1, none⟩ = some (.int .u32 a) := (K1.out.ext X5.out).cell 1
        have y12 : w5.cell? ⟨w.heap.size + 1, 2, none⟩ = some (.int .u32 b) := (K1.out.ext X5.out).cell 2
        have y20 : w5.cell? ⟨w.heap.size + 1 + 1, 0, none⟩ = some (.slice none 0 0) := (K2.out.ext X5.out).cell 0
        have z20 : w5.frozen? ⟨w.heap.size + 1 + 1, 0, none⟩ = false := (K2.out.ext X5.out).frozen 0
        have y21 : w5.cell? ⟨w.heap.size + 1 + 1, 1, none⟩ = some (.slice none 0 0) := (K2.out.ext X5.out).cell 1
        have z21 : w5.frozen? ⟨w.heap.size + 1 + 1, 1, none⟩ = false := (K2.out.ext X5.out).frozen 1
        have y22 : w5.cell? ⟨w.heap.size + 1 + 1, 2, none⟩ = some (.slice none 0 0) := (K2.out.ext X5.out).cell 2
        have z22 : w5.frozen? ⟨w.heap.size + 1 + 1, 2, none⟩ = false := (K2.out.ext X5.out).frozen 2
        have y30 : w5.cell? ⟨w.heap.size + 1 + 1 + 1, 0, none⟩ = some (.int .i64 0) := (K3.out.ext X5.out).cell 0
        have z30 : w5.frozen? ⟨w.heap.size + 1 + 1 + 1, 0, none⟩ = false := (K3.out.ext X5.out).frozen 0
        have y31 : w5.cell? ⟨w.heap.size + 1 + 1 + 1, 1, none⟩ = some (.int .u32 0) := (K3.out.ext X5.out).cell 1
        have z31 : w5.frozen? ⟨w.heap.size + 1 + 1 + 1, 1, none⟩ = false := (K3.out.ext X5.out).frozen 1
        go_wp2_with fail
        have W0L := K2.out.ext X5.out
        have W0M := K3.out.ext X5.out
        have hfin : Fr (fun q => q = w.heap.size ∨ q = w.heap.size + 1 + 1 ∨ q = w.heap.size + 1 + 1 + 1) w5 ((((((w5.setCell ⟨w.heap.size, 1, none⟩ (.slice A' L c')).setCell ⟨w.heap.size + 1 + 1, 0, none⟩ (.slice A0 n0 c0)).setCell ⟨w.heap.size + 1 + 1, 1, none⟩ (.slice A' L c')).setCell ⟨w.heap.size + 1 + 1, 2, none⟩ (.slice A2 n2 c2)).setCell ⟨w.heap.size + 1 + 1 + 1, 0, none⟩ (.int .i64 1)).setCell ⟨w.heap.size + 1 + 1 + 1, 1, none⟩ (.int .u32 0)) ∧ (((((((w5.setCell ⟨w.heap.size, 1, none⟩ (.slice A' L c')).setCell ⟨w.heap.size + 1 + 1, 0, none⟩ (.slice A0 n0 c0)).setCell ⟨w.heap.size + 1 + 1, 1, none⟩ (.slice A' L c')).setCell ⟨w.heap.size + 1 + 1, 2, none⟩ (.slice A2 n2 c2)).setCell ⟨w.heap.size + 1 + 1 + 1, 0, none⟩ (.int .i64 1)).setCell ⟨w.heap.size + 1 + 1 + 1, 1, none⟩ (.int .u32 0)).cell? ⟨w.heap.size + 1 + 1, 0, none⟩ = some (.slice A0 n0 c0) ∧ ((((((w5.setCell ⟨w.heap.size, 1, none⟩ (.slice A' L c')).setCell ⟨w.heap.size + 1 + 1, 0, none⟩ (.slice A0 n0 c0)).setCell ⟨w.heap.size + 1 + 1, 1, none⟩ (.slice A' L c')).setCell ⟨w.heap.size + 1 + 1, 2, none⟩ (.slice A2 n2 c2)).setCell ⟨w.heap.size + 1 + 1 + 1, 0, none⟩ (.int .i64 1)).setCell ⟨w.heap.size + 1 + 1 + 1, 1, none⟩ (.int .u32 0)).cell? ⟨w.heap.size + 1 + 1, 1, none⟩ = some (.slice A' L c') ∧ ((((((w5.setCell ⟨w.heap.size, 1, none⟩ (.slice A' L c')).setCell ⟨w.heap.size + 1 + 1, 0, none⟩ (.slice A0 n0 c0)).setCell ⟨w.heap.size + 1 + 1, 1, none⟩ (.slice A' L c')).setCell ⟨w.heap.size + 1 + 1, 2, none⟩ (.slice A2 n2 c2)).setCell ⟨w.heap.size + 1 + 1 + 1, 0, none⟩ (.int .i64 1)).setCell ⟨w.heap.size + 1 + 1 + 1, 1, none⟩ (.int .u32 0)).cell? ⟨w.heap.size + 1 + 1, 2, none⟩ = some (.slice A2 n2 c2) ∧ ((((((w5.setCell ⟨w.heap.size, 1, none⟩ (.slice A' L c')).setCell ⟨w.heap.size + 1 + 1, 0, none⟩ (.slice A0 n0 c0)).setCell ⟨w.heap.size + 1 + 1, 1, none⟩ (.slice A' L c')).setCell ⟨w.heap.size + 1 + 1, 2, none⟩ (.slice A2 n2 c2)).setCell ⟨w.heap.size + 1 + 1 + 1, 0, none⟩ (.int .i64 1)).setCell ⟨w.heap.size + 1 + 1 + 1, 1, none⟩ (.int .u32 0)).cell? ⟨w.heap.size + 1 + 1 + 1, 0, none⟩ = some (.int .i64 1) ∧ ((((((w5.setCell ⟨w.heap.size, 1, none⟩ (.slice A' L c')).setCell ⟨w.heap.size + 1 + 1, 0, none⟩ (.slice A0 n0 c0)).setCell ⟨w.heap.size + 1 + 1, 1, none⟩ (.slice A' L c')).setCell ⟨w.heap.size + 1 + 1, 2, none⟩ (.slice A2 n2 c2)).setCell ⟨w.heap.size + 1 + 1 + 1, 0, none⟩ (.int .i64 1)).setCell ⟨w.heap.size + 1 + 1 + 1, 1, none⟩ (.int .u32 0)).cell? ⟨w.heap.size + 1 + 1 + 1, 1, none⟩ = some (.int .u32 0)) := fin_ret w5 w.heap.size (some (1, .slice A' L c')) (.slice A0 n0 c0) (.slice A' L c') (.slice A2 n2 c2) 1 0 W0L W0M
        have fz := hfin.1
        have hcs := hfin.2
        clear hfin W0L W0M
        have X7 := fz.ext (X0.out.trans X5.out) (fun q e => by rcases e with e | e | e <;> omega)
        have S7 : StF w ((((((w5.setCell ⟨w.heap.size, 1, none⟩ (.slice A' L c')).setCell ⟨w.heap.size + 1 + 1, 0, none⟩ (.slice A0 n0 c0)).setCell ⟨w.heap.size + 1 + 1, 1, none⟩ (.slice A' L c')).setCell ⟨w.heap.size + 1 + 1, 2, none⟩ (.slice A2 n2 c2)).setCell ⟨w.heap.size + 1 + 1 + 1, 0, none⟩ (.int .i64 1)).setCell ⟨w.heap.size + 1 + 1 + 1, 1, none⟩ (.int .u32 0)) A0 A1 A2 n0 n1 n2 A0 A' A2 ⟨st.q, leftI (CutI a) st.s, st.m⟩ := fun W8 f8 => by
          have fz8 : Fr (fun q => (q = w.heap.size ∨ q = w.heap.size + 1 + 1 ∨ q = w.heap.size + 1 + 1 + 1) ∨ OldB w A0 A1 A2 n0 n1 n2 q) w5 W8 := (fz.mono (fun _ _ h => Or.inl h)).trans f8 (fun _ _ h => Or.inr h)
          exact ⟨ints_frN (HS.out.q.ext X7) f8 (fun h0 ad e hs => hs.2.1 (by rw [← HLL.out.q]; exact h0) ad e rfl), row_ints (H1.out.fr fz8 (fun q hq e => by have := (World.ownsRow.lt H1.out q hq).1; rcases e with (e | e | e) | e <;> first | omega | (have := e.1; omega))), pat_frN (HS.out.m.ext X7) f8 (fun h0 ad e hs => hs.2.2.2 (by rw [← HLL.out.m]; exact h0) ad e rfl)⟩
        clear y00 y01 y02 y10 y11 y12 y20 y21 y22 y30 y31 z00 z01 z02 z20 z21 z22 z30 z31
        generalize ((((((w5.setCell ⟨w.heap.size, 1, none⟩ (.slice A' L c')).setCell ⟨w.heap.size + 1 + 1, 0, none⟩ (.slice A0 n0 c0)).setCell ⟨w.heap.size + 1 + 1, 1, none⟩ (.slice A' L c')).setCell ⟨w.heap.size + 1 + 1, 2, none⟩ (.slice A2 n2 c2)).setCell ⟨w.heap.size + 1 + 1 + 1, 0, none⟩ (.int .i64 1)).setCell ⟨w.heap.size + 1 + 1 + 1, 1, none⟩ (.int .u32 0)) = W7 at *
        obtain ⟨q0, q1, q2, q3, q4⟩ := hcs
        exact bodyPost_ret (v := .tuple #[.agg #[.slice A0 n0 c0, .slice A' L c', .slice A2 n2 c2], .agg #[.int .i64 1, .int .u32 0]]) (by simp [results, Try.results10, go_sem, q0, q1, q2, q3, q4]) rfl ⟨A0, A', A2, _, _, _, by show _ = Ending.returned (.tuple #[.agg #[.slice A0 st.q.length c0, .slice A' (leftI (CutI a) st.s).length c', .slice A2 st.m.length c2], _]); rw [HLn.out, HLL.out.q, HLL.out.m], ⟨by rw [HLL.out.q]; exact HCP.out.1, HCP.out.2⟩, S7, ⟨fun h0 ad e => Or.inl ⟨(by have h9 : 0 < st.q.length := h0; have := HLL.out.q; omega), ad, e, rfl⟩, fun h0 ad e => Or.inr (by have := (World.ownsRow.lt H1.out ad.block (own_some e)).1; omega), fun h0 ad e => Or.inl ⟨(by have h9 : 0 < st.m.length := h0; have := HLL.out.m; omega), ad, e, rfl⟩⟩, X7⟩
set_option maxRecDepth 100000 in
set_option maxHeartbeats 4000000 in
theorem rApp4_false (w : World) (A0 A1 A2 : Option Addr) (n0 n1 n2 c0 c1 c2 : Nat) (st : Sta) (a b : Int) (h : StAt w A0 A1 A2 st) (hl : Lens st n0 n1 n2) (m0 : n0 ≤ 1000) (m1 : n1 ≤ 1000) (m2 : n2 ≤ 1000) (hcap : n0 ≤ c0 ∧ c0 ≤ 9223372036854775807) (hh : hasI st.s a = false) :
    Calls Try.prog 10 #[.agg #[.slice A0 n0 c0, .slice A1 n1 c1, .slice A2 n2 c2], .agg #[.int .i64 4, .int .u32 a, .int .u32 b]] w (RPost w A0 A1 A2 n0 n1 n2 (doS st 4 a b).1 (doS st 4 a b).2) := by
  have HH := Lib.hid hh
  have e0 : doS st 4 a b = (st, (4, 0)) := by
    show ((⟨st.q, leftI (CutI a) st.s, st.m⟩ : Sta), ((toldK (hasI st.s a) 1 4, 0) : Rs)) = _
    rw [hh, left_self st.s a hh]
    rfl
  rw [e0]
  clear e0 hh
  have HS := Lib.hid h
  have HLL := Lib.hid hl
  have HCP := Lib.hid hcap
  obtain ⟨k0, k1, k2, k3⟩ := four_new w (.slice A0 n0 c0) (.slice A1 n1 c1) (.slice A2 n2 c2) 4 a b
  have K0 := Lib.hid k0
  have K1 := Lib.hid k1
  have K2 := Lib.hid k2
  have K3 := Lib.hid k3
  have X0 := Lib.hid (((((Ext.refl w).alloc (.cells #[.slice A0 n0 c0, .slice A1 n1 c1, .slice A2 n2 c2] 25)).alloc (.cells #[.int .i64 4, .int .u32 a, .int .u32 b] 38)).alloc (.cells #[.slice none 0 0, .slice none 0 0, .slice none 0 0] 25)).alloc (.cells #[.int .i64 0, .int .u32 0] 34))
  clear h hl k0 k1 k2 k3 hcap
  go_enter Try.func10, Try.ntmps10
  go_upto_region 1 with fail
  generalize ((((w.alloc (.cells #[.slice A0 n0 c0, .slice A1 n1 c1, .slice A2 n2 c2] 25)).alloc (.cells #[.int .i64 4, .int .u32 a, .int .u32 b] 38)).alloc (.cells #[.slice none 0 0, .slice none 0 0, .slice none 0 0] 25)).alloc (.cells #[.int .i64 0, .int .u32 0] 34)) = W0 at *
  have s3 : w.heap.size + 1 + 1 + 1 < W0.heap.size := K3.out.lt
  have e01 : ¬ w.heap.size = w.heap.size + 1 := by omega
  have e02 : ¬ w.heap.size = w.heap.size + 1 + 1 := by omega
  have e03 : ¬ w.heap.size = w.heap.size + 1 + 1 + 1 := by omega
  have e20 : ¬ w.heap.size + 1 + 1 = w.heap.size := by omega
  have e23 : ¬ w.heap.size + 1 + 1 = w.heap.size + 1 + 1 + 1 := by omega
  have e30 : ¬ w.heap.size + 1 + 1 + 1 = w.heap.size := by omega
  have e32 : ¬ w.heap.size + 1 + 1 + 1 = w.heap.size + 1 + 1 := by omega
  have e10 : ¬ w.heap.size + 1 = w.heap.size := by omega
  have y00 : W0.cell? ⟨w.heap.size, 0, none⟩ = some (.slice A0 n0 c0) := (K0.out.ext (Ext.refl W0)).cell 0
  have z00 : W0.frozen? ⟨w.heap.size, 0, none⟩ = false := (K0.out.ext (Ext.refl W0)).frozen 0
  have y01 : W0.cell? ⟨w.heap.size, 1, none⟩ = some (.slice A1 n1 c1) := (K0.out.ext (Ext.refl W0)).cell 1
  have z01 : W0.frozen? ⟨w.heap.size, 1, none⟩ = false := (K0.out.ext (Ext.refl W0)).frozen 1
  have y02 : W0.cell? ⟨w.heap.size, 2, none⟩ = some (.slice A2 n2 c2) := (K0.out.ext (Ext.refl W0)).cell 2
  have z02 : W0.frozen? ⟨w.heap.size, 2, none⟩ = false := (K0.out.ext (Ext.refl W0)).frozen 2
  have y10 : W0.cell? ⟨w.heap.size + 1, 0, none⟩ = some (.int .i64 4) := (K1.out.ext (Ext.refl W0)).cell 0
  have y11 : W0.cell? ⟨w.heap.size + 1, 1, none⟩ = some (.int .u32 a) := (K1.out.ext (Ext.refl W0)).cell 1
  have y12 : W0.cell? ⟨w.heap.size + 1, 2, none⟩ = some (.int .u32 b) := (K1.out.ext (Ext.refl W0)).cell 2
  have y20 : W0.cell? ⟨w.heap.size + 1 + 1, 0, none⟩ = some (.slice none 0 0) := (K2.out.ext (Ext.refl W0)).cell 0
  have z20 : W0.frozen? ⟨w.heap.size + 1 + 1, 0, none⟩ = false := (K2.out.ext (Ext.refl W0)).frozen 0
  have y21 : W0.cell? ⟨w.heap.size + 1 + 1, 1, none⟩ = some (.slice none 0 0) := (K2.out.ext (Ext.refl W0)).cell 1
  have z21 : W0.frozen? ⟨w.heap.size + 1 + 1, 1, none⟩ = false := (K2.out.ext (Ext.refl W0)).frozen 1
  have y22 : W0.cell? ⟨w.heap.size + 1 + 1, 2, none⟩ = some (.slice none 0 0) := (K2.out.ext (Ext.refl W0)).cell 2
  have z22 : W0.frozen? ⟨w.heap.size + 1 + 1, 2, none⟩ = false := (K2.out.ext (Ext.refl W0)).frozen 2
  have y30 : W0.cell? ⟨w.heap.size + 1 + 1 + 1, 0, none⟩ = some (.int .i64 0) := (K3.out.ext (Ext.refl W0)).cell 0
  have z30 : W0.frozen? ⟨w.heap.size + 1 + 1 + 1, 0, none⟩ = false := (K3.out.ext (Ext.refl W0)).frozen 0
  have y31 : W0.cell? ⟨w.heap.size + 1 + 1 + 1, 1, none⟩ = some (.int .u32 0) := (K3.out.ext (Ext.refl W0)).cell 1
  have z31 : W0.frozen? ⟨w.heap.size + 1 + 1 + 1, 1, none⟩ = false := (K3.out.ext (Ext.refl W0)).frozen 1
  go_wp2_with fail
  clear y00 y01 y02 y10 y11 y12 y20 y21 y22 y30 y31 z00 z01 z02 z20 z21 z22 z30 z31
  go_loopw [9, 10] (fun h i wr => ∃ k : Nat, k ≤ n1 ∧ i = .int .i64 k ∧ h = .bool (hasI (st.s.take k) a) ∧ Ext W0 wr) (fun _ i _ => n1 - (intOf i).toNat)
  case atStart => exact ⟨0, Nat.zero_le _, rfl, rfl, Ext.refl _⟩
  case round =>
    obtain ⟨k, hk, rfl, rfl, xk⟩ := hrel
    have XK := Lib.hid xk
    clear xk
    have y01 : wr.cell? ⟨w.heap.size, 1, none⟩ = some (.slice A1 n1 c1) := (K0.out.ext XK.out).cell 1
    have y10 : wr.cell? ⟨w.heap.size + 1, 0, none⟩ = some (.int .i64 4) := (K1.out.ext XK.out).cell 0
    have y11 : wr.cell? ⟨w.heap.size + 1, 1, none⟩ = some (.int .u32 a) := (K1.out.ext XK.out).cell 1
    by_cases hlt : k < n1
    · have v1 : decide (k < n1) = true := by simp; omega
      have hll := HLL.out.s
      obtain ⟨ad, hA, hbl, hc⟩ := (HS.out.s.ext (X0.out.trans XK.out)) (by omega)
      have q0 := hc k (by omega)
      have HT : Hid (hasI (st.s.take (k + 1)) a = (hasI (st.s.take k) a || (st.s.getD k 0 == a))) := Lib.hid (by rw [take_oneI st.s k (by omega)]; exact hasI_snoc _ _ _)
      generalize st.s.getD k 0 = x at *
      obtain ⟨hb, hhb⟩ : ∃ r, hasI (st.s.take k) a = r := ⟨_, rfl⟩
      obtain ⟨xb, hxb⟩ : ∃ r, (x == a) = r := ⟨_, rfl⟩
      rw [hhb, hxb] at HT
      rw [hhb]
      clear hc hll hhb
      subst hA
      cases hb
      · go_wp2_with fail
        go_quiet (fail)
        go_wp2_with fail
        go_roundw
        case rel => exact ⟨k + 1, by omega, by go_num, by rw [HT.out]; rfl, XK.out.trans (extN _ _)⟩
        case measure => simp [intOf]; omega
      · go_wp2_with fail
        go_quiet (fail)
        go_wp2_with fail
        go_roundw
        case rel => exact ⟨k + 1, by omega, by go_num, by rw [HT.out]; rfl, XK.out.trans (extN _ _)⟩
        case measure => simp [intOf]; omega
    · have v1 : decide (k < n1) = false := by simp; omega
      obtain rfl : n1 = k := by omega
      rw [show st.s.take n1 = st.s from List.take_of_length_le (by rw [HLL.out.s]; exact Nat.le_refl _), HH.out]
      generalize wr = w4 at *
      have X4 := Lib.hid XK.out
      have hs4 : w.heap.size + 1 + 1 + 1 < w4.heap.size := Nat.lt_of_lt_of_le s3 X4.out.size
      clear y01 y10 y11 XK
      have y00 : w4.cell? ⟨w.heap.size, 0, none⟩ = some (.slice A0 n0 c0) := (K0.out.ext X4.out).cell 0
      have z00 : w4.frozen? ⟨w.heap.size, 0, none⟩ = false := (K0.out.ext X4.out).frozen 0
      have y01 : w4.cell? ⟨w.heap.size, 1, none⟩ = some (.slice A1 n1 c1) := (K0.out.ext X4.out).cell 1
      have z01 : w4.frozen? ⟨w.heap.size, 1, none⟩ = false := (K0.out.ext X4.out).frozen 1
      have y02 : w4.cell? ⟨w.heap.size, 2, none⟩ = some (.slice A2 n2 c2) := (K0.out.ext X4.out).cell 2
      have z02 : w4.frozen? ⟨w.heap.size, 2, none⟩ = false := (K0.out.ext X4.out).frozen 2
      have y10 : w4.cell? ⟨w.heap.size + 1, 0, none⟩ = some (.int .i64 4) := (K1.out.ext X4.out).cell 0
      have y11 : w4.cell? ⟨w.heap.size + 1, 1, none⟩ = some (.int .u32 a) := (K1.out.ext X4.out).cell 1
      have y12 : w4.cell? ⟨w.heap.size + 1, 2, none⟩ = some (.int .u32 b) := (K1.out.ext X4.out).cell 2
      have y20 : w4.cell? ⟨w.heap.size + 1 + 1, 0, none⟩ = some (.slice none 0 0) := (K2.out.ext X4.out).cell 0
      have z20 : w4.frozen? ⟨w.heap.size + 1 + 1, 0, none⟩ = false := (K2.out.ext X4.out).frozen 0
      have y21 : w4.cell? ⟨w.heap.size + 1 + 1, 1, none⟩ = some (.slice none 0 0) := (K2.out.ext X4.out).cell 1
      have z21 : w4.frozen? ⟨w.heap.size + 1 + 1, 1, none⟩ = false := (K2.out.ext X4.out).frozen 1
      have y22 : w4.cell? ⟨w.heap.size + 1 + 1, 2, none⟩ = some (.slice none 0 0) := (K2.out.ext X4.out).cell 2
      have z22 : w4.frozen? ⟨w.heap.size + 1 + 1, 2, none⟩ = false := (K2.out.ext X4.out).frozen 2
      have y30 : w4.cell? ⟨w.heap.size + 1 + 1 + 1, 0, none⟩ = some (.int .i64 0) := (K3.out.ext X4.out).cell 0
      have z30 : w4.frozen? ⟨w.heap.size + 1 + 1 + 1, 0, none⟩ = false := (K3.out.ext X4.out).frozen 0
      have y31 : w4.cell? ⟨w.heap.size + 1 + 1 + 1, 1, none⟩ = some (.int .u32 0) := (K3.out.ext X4.out).cell 1
      have z31 : w4.frozen? ⟨w.heap.size + 1 + 1 + 1, 1, none⟩ = false := (K3.out.ext X4.out).frozen 1
      go_wp2_with fail
      go_loopw [9, 11, 12] (fun h v i wr => h = .bool false ∧ v = .int .u32 0 ∧ i = .int .i64 0 ∧ w4 = wr) (fun _ _ _ _ => 0)
      case atStart => exact ⟨rfl, rfl, rfl, rfl⟩
      case round =>
        obtain ⟨rfl, rfl, rfl, rfl⟩ := hrel
        go_wp2_with fail
        have W0L := K2.out.ext X4.out
        have W0M := K3.out.ext X4.out
        have hfin : Fr (fun q => q = w.heap.size ∨ q = w.heap.size + 1 + 1 ∨ q = w.heap.size + 1 + 1 + 1) w4 (((((w4.setCell ⟨w.heap.size + 1 + 1, 0, none⟩ (.slice A0 n0 c0)).setCell ⟨w.heap.size + 1 + 1, 1, none⟩ (.slice A1 n1 c1)).setCell ⟨w.heap.size + 1 + 1, 2, none⟩ (.slice A2 n2 c2)).setCell ⟨w.heap.size + 1 + 1 + 1, 0, none⟩ (.int .i64 4)).setCell ⟨w.heap.size + 1 + 1 + 1, 1, none⟩ (.int .u32 0)) ∧ ((((((w4.setCell ⟨w.heap.size + 1 + 1, 0, none⟩ (.slice A0 n0 c0)).setCell ⟨w.heap.size + 1 + 1, 1, none⟩ (.slice A1 n1 c1)).setCell ⟨w.heap.size + 1 + 1, 2, none⟩ (.slice A2 n2 c2)).setCell ⟨w.heap.size + 1 + 1 + 1, 0, none⟩ (.int .i64 4)).setCell ⟨w.heap.size + 1 + 1 + 1, 1, none⟩ (.int .u32 0)).cell? ⟨w.heap.size + 1 + 1, 0, none⟩ = some (.slice A0 n0 c0) ∧ (((((w4.setCell ⟨w.heap.size + 1 + 1, 0, none⟩ (.slice A0 n0 c0)).setCell ⟨w.heap.size + 1 + 1, 1, none⟩ (.slice A1 n1 c1)).setCell ⟨w.heap.size + 1 + 1, 2, none⟩ (.slice A2 n2 c2)).setCell ⟨w.heap.size + 1 + 1 + 1, 0, none⟩ (.int .i64 4)).setCell ⟨w.heap.size + 1 + 1 + 1, 1, none⟩ (.int .u32 0)).cell? ⟨w.heap.size + 1 + 1, 1, none⟩ = some (.slice A1 n1 c1) ∧ (((((w4.setCell ⟨w.heap.size + 1 + 1, 0, none⟩ (.slice A0 n0 c0)).setCell ⟨w.heap.size + 1 + 1, 1, none⟩ (.slice A1 n1 c1)).setCell ⟨w.heap.size + 1 + 1, 2, none⟩ (.slice A2 n2 c2)).setCell ⟨w.heap.size + 1 + 1 + 1, 0, none⟩ (.int .i64 4)).setCell ⟨w.heap.size + 1 + 1 + 1, 1, none⟩ (.int .u32 0)).cell? ⟨w.heap.size + 1 + 1, 2, none⟩ = some (.slice A2 n2 c2) ∧ (((((w4.setCell ⟨w.heap.size + 1 + 1, 0, none⟩ (.slice A0 n0 c0)).setCell ⟨w.heap.size + 1 + 1, 1, none⟩ (.slice A1 n1 c1)).setCell ⟨w.heap.size + 1 + 1, 2, none⟩ (.slice A2 n2 c2)).setCell ⟨w.heap.size + 1 + 1 + 1, 0, none⟩ (.int .i64 4)).setCell ⟨w.heap.size + 1 + 1 + 1, 1, none⟩ (.int .u32 0)).cell? ⟨w.heap.size + 1 + 1 + 1, 0, none⟩ = some (.int .i64 4) ∧ (((((w4.setCell ⟨w.heap.size + 1 + 1, 0, none⟩ (.slice A0 n0 c0)).setCell ⟨w.heap.size + 1 + 1, 1, none⟩ (.slice A1 n1 c1)).setCell ⟨w.heap.size + 1 + 1, 2, none⟩ (.slice A2 n2 c2)).setCell ⟨w.heap.size + 1 + 1 + 1, 0, none⟩ (.int .i64 4)).setCell ⟨w.heap.size + 1 + 1 + 1, 1, none⟩ (.int .u32 0)).cell? ⟨w.heap.size + 1 + 1 + 1, 1, none⟩ = some (.int .u32 0)) := fin_ret w4 w.heap.size none (.slice A0 n0 c0) (.slice A1 n1 c1) (.slice A2 n2 c2) 4 0 W0L W0M
        have fz := hfin.1
        have hcs := hfin.2
        clear hfin W0L W0M
        have X7 := fz.ext (X0.out.trans X4.out) (fun q e => by rcases e with e | e | e <;> omega)
        have S7 : StF w (((((w4.setCell ⟨w.heap.size + 1 + 1, 0, none⟩ (.slice A0 n0 c0)).setCell ⟨w.heap.size + 1 + 1, 1, none⟩ (.slice A1 n1 c1)).setCell ⟨w.heap.size + 1 + 1, 2, none⟩ (.slice A2 n2 c2)).setCell ⟨w.heap.size + 1 + 1 + 1, 0, none⟩ (.int .i64 4)).setCell ⟨w.heap.size + 1 + 1 + 1, 1, none⟩ (.int .u32 0)) A0 A1 A2 n0 n1 n2 A0 A1 A2 st := fun W8 f8 => by
          have fz8 : Fr (fun q => (q = w.heap.size ∨ q = w.heap.size + 1 + 1 ∨ q = w.heap.size + 1 + 1 + 1) ∨ OldB w A0 A1 A2 n0 n1 n2 q) w4 W8 := (fz.mono (fun _ _ h => Or.inl h)).trans f8 (fun _ _ h => Or.inr h)
          exact stF_old HLL.out (HS.out.ext X7) f8
        clear y00 y01 y02 y10 y11 y12 y20 y21 y22 y30 y31 z00 z01 z02 z20 z21 z22 z30 z31
        generalize (((((w4.setCell ⟨w.heap.size + 1 + 1, 0, none⟩ (.slice A0 n0 c0)).setCell ⟨w.heap.size + 1 + 1, 1, none⟩ (.slice A1 n1 c1)).setCell ⟨w.heap.size + 1 + 1, 2, none⟩ (.slice A2 n2 c2)).setCell ⟨w.heap.size + 1 + 1 + 1, 0, none⟩ (.int .i64 4)).setCell ⟨w.heap.size + 1 + 1 + 1, 1, none⟩ (.int .u32 0)) = W7 at *
        obtain ⟨q0, q1, q2, q3, q4⟩ := hcs
        exact bodyPost_ret (v := .tuple #[.agg #[.slice A0 n0 c0, .slice A1 n1 c1, .slice A2 n2 c2], .agg #[.int .i64 4, .int .u32 0]]) (by simp [results, Try.results10, go_sem, q0, q1, q2, q3, q4]) rfl ⟨A0, A1, A2, _, _, _, by rw [HLL.out.q, HLL.out.s, HLL.out.m], ⟨by rw [HLL.out.q]; exact HCP.out.1, HCP.out.2⟩, S7, ⟨fun h0 ad e => Or.inl ⟨(by have h9 : 0 < st.q.length := h0; have := HLL.out.q; omega), ad, e, rfl⟩, fun h0 ad e => Or.inl ⟨(by have h9 : 0 < st.s.length := h0; have := HLL.out.s; omega), ad, e, rfl⟩, fun h0 ad e => Or.inl ⟨(by have h9 : 0 < st.m.length := h0; have := HLL.out.m; omega), ad, e, rfl⟩⟩, X7⟩
set_option maxRecDepth 100000 in
set_option maxHeartbeats 4000000 in
theorem rApp5_true (w : World) (A0 A1 A2 : Option Addr) (n0 n1 n2 c0 c1 c2 : Nat) (st : Sta) (a b : Int) (h : StAt w A0 A1 A2 st) (hl : Lens st n0 n1 n2) (m0 : n0 ≤ 1000) (m1 : n1 ≤ 1000) (m2 : n2 ≤ 1000) (hcap : n0 ≤ c0 ∧ c0 ≤ 9223372036854775807) (hh : hasI st.s a = true) :
    Calls Try.prog 10 #[.agg #[.slice A0 n0 c0, .slice A1 n1 c1, .slice A2 n2 c2], .agg #[.int .i64 5, .int .u32 a, .int .u32 b]] w (RPost w A0 A1 A2 n0 n1 n2 (doS st 5 a b).1 (doS st 5 a b).2) := by
  have HH := Lib.hid hh
  have e0 : doS st 5 a b = (st, (3, 0)) := by
    show (st, ((toldK (hasI st.s a) 3 4, 0) : Rs)) = _
    rw [hh]
    rfl
  rw [e0]
  clear e0 hh
  have HS := Lib.hid h
  have HLL := Lib.hid hl
  have HCP := Lib.hid hcap
  obtain ⟨k0, k1, k2, k3⟩ := four_new w (.slice A0 n0 c0) (.slice A1 n1 c1) (.slice A2 n2 c2) 5 a b
  have K0 := Lib.hid k0
  have K1 := Lib.hid k1
  have K2 := Lib.hid k2
  have K3 := Lib.hid k3
  have X0 := Lib.hid (((((Ext.refl w).alloc (.cells #[.slice A0 n0 c0, .slice A1 n1 c1, .slice A2 n2 c2] 25)).alloc (.cells #[.int .i64 5, .int .u32 a, .int .u32 b] 38)).alloc (.cells #[.slice none 0 0, .slice none 0 0, .slice none 0 0] 25)).alloc (.cells #[.int .i64 0, .int .u32 0] 34))
  clear h hl k0 k1 k2 k3 hcap
  go_enter Try.func10, Try.ntmps10
  go_upto_region 1 with fail
  generalize ((((w.alloc (.cells #[.slice A0 n0 c0, .slice A1 n1 c1, .slice A2 n2 c2] 25)).alloc (.cells #[.int .i64 5, .int .u32 a, .int .u32 b] 38)).alloc (.cells #[.slice none 0 0, .slice none 0 0, .slice none 0 0] 25)).alloc (.cells #[.int .i64 0, .int .u32 0] 34)) = W0 at *
  have s3 : w.heap.size + 1 + 1 + 1 < W0.heap.size := K3.out.lt
  have e01 : ¬ w.heap.size = w.heap.size + 1 := by omega
  have e02 : ¬ w.heap.size = w.heap.size + 1 + 1 := by omega
  have e03 : ¬ w.heap.size = w.heap.size + 1 + 1 + 1 := by omega
  have e20 : ¬ w.heap.size + 1 + 1 = w.heap.size := by omega
  have e23 : ¬ w.heap.size + 1 + 1 = w.heap.size + 1 + 1 + 1 := by omega
  have e30 : ¬ w.heap.size + 1 + 1 + 1 = w.heap.size := by omega
  have e32 : ¬ w.heap.size + 1 + 1 + 1 = w.heap.size + 1 + 1 := by omega
  have e10 : ¬ w.heap.size + 1 = w.heap.size := by omega
  have y00 : W0.cell? ⟨w.heap.size, 0, none⟩ = some (.slice A0 n0 c0) := (K0.out.ext (Ext.refl W0)).cell 0
  have z00 : W0.frozen? ⟨w.heap.size, 0, none⟩ = false := (K0.out.ext (Ext.refl W0)).frozen 0
  have y01 : W0.cell? ⟨w.heap.size, 1, none⟩ = some (.slice A1 n1 c1) := (K0.out.ext (Ext.refl W0)).cell 1
  have z01 : W0.frozen? ⟨w.heap.size, 1, none⟩ = false := (K0.out.ext (Ext.refl W0)).frozen 1
  have y02 : W0.cell? ⟨w.heap.size, 2, none⟩ = some (.slice A2 n2 c2) := (K0.out.ext (Ext.refl W0)).cell 2
  have z02 : W0.frozen? ⟨w.heap.size, 2, none⟩ = false := (K0.out.ext (Ext.refl W0)).frozen 2
  have y10 : W0.cell? ⟨w.heap.size + 1, 0, none⟩ = some (.int .i64 5) := (K1.out.ext (Ext.refl W0)).cell 0
  have y11 : W0.cell? ⟨w.heap.size + 1, 1, none⟩ = some (.int .u32 a) := (K1.out.ext (Ext.refl W0)).cell 1
  have y12 : W0.cell? ⟨w.heap.size + 1, 2, none⟩ = some (.int .u32 b) := (K1.out.ext (Ext.refl W0)).cell 2
  have y20 : W0.cell? ⟨w.heap.size + 1 + 1, 0, none⟩ = some (.slice none 0 0) := (K2.out.ext (Ext.refl W0)).cell 0
  have z20 : W0.frozen? ⟨w.heap.size + 1 + 1, 0, none⟩ = false := (K2.out.ext (Ext.refl W0)).frozen 0
  have y21 : W0.cell? ⟨w.heap.size + 1 + 1, 1, none⟩ = some (.slice none 0 0) := (K2.out.ext (Ext.refl W0)).cell 1
  have z21 : W0.frozen? ⟨w.heap.size + 1 + 1, 1, none⟩ = false := (K2.out.ext (Ext.refl W0)).frozen 1
  have y22 : W0.cell? ⟨w.heap.size + 1 + 1, 2, none⟩ = some (.slice none 0 0) := (K2.out.ext (Ext.refl W0)).cell 2
  have z22 : W0.frozen? ⟨w.heap.size + 1 + 1, 2, none⟩ = false := (K2.out.ext (Ext.refl W0)).frozen 2
  have y30 : W0.cell? ⟨w.heap.size + 1 + 1 + 1, 0, none⟩ = some (.int .i64 0) := (K3.out.ext (Ext.refl W0)).cell 0
  have z30 : W0.frozen? ⟨w.heap.size + 1 + 1 + 1, 0, none⟩ = false := (K3.out.ext (Ext.refl W0)).frozen 0
  have y31 : W0.cell? ⟨w.heap.size + 1 + 1 + 1, 1, none⟩ = some (.int .u32 0) := (K3.out.ext (Ext.refl W0)).cell 1
  have z31 : W0.frozen? ⟨w.heap.size + 1 + 1 + 1, 1, none⟩ = false := (K3.out.ext (Ext.refl W0)).frozen 1
  go_wp2_with fail
  clear y00 y01 y02 y10 y11 y12 y20 y21 y22 y30 y31 z00 z01 z02 z20 z21 z22 z30 z31
  go_loopw [9, 10] (fun h i wr => ∃ k : Nat, k ≤ n1 ∧ i = .int .i64 k ∧ h = .bool (hasI (st.s.take k) a) ∧ Ext W0 wr) (fun _ i _ => n1 - (intOf i).toNat)
  case atStart => exact ⟨0, Nat.zero_le _, rfl, rfl, Ext.refl _⟩
  case round =>
    obtain ⟨k, hk, rfl, rfl, xk⟩ := hrel
    have XK := Lib.hid xk
    clear xk
    have y01 : wr.cell? ⟨w.heap.size, 1, none⟩ = some (.slice A1 n1 c1) := (K0.out.ext XK.out).cell 1
    have y10 : wr.cell? ⟨w.heap.size + 1, 0, none⟩ = some (.int .i64 5) := (K1.out.ext XK.out).cell 0
    have y11 : wr.cell? ⟨w.heap.size + 1, 1, none⟩ = some (.int .u32 a) := (K1.out.ext XK.out).cell 1
    by_cases hlt : k < n1
    · have v1 : decide (k < n1) = true := by simp; omega
      have hll := HLL.out.s
      obtain ⟨ad, hA, hbl, hc⟩ := (HS.out.s.ext (X0.out.trans XK.out)) (by omega)
      have q0 := hc k (by omega)
      have HT : Hid (hasI (st.s.take (k + 1)) a = (hasI (st.s.take k) a || (st.s.getD k 0 == a))) := Lib.hid (by rw [take_oneI st.s k (by omega)]; exact hasI_snoc _ _ _)
      generalize st.s.getD k 0 = x at *
      obtain ⟨hb, hhb⟩ : ∃ r, hasI (st.s.take k) a = r := ⟨_, rfl⟩
      obtain ⟨xb, hxb⟩ : ∃ r, (x == a) = r := ⟨_, rfl⟩
      rw [hhb, hxb] at HT
      rw [hhb]
      clear hc hll hhb
      subst hA
      cases hb
      · go_wp2_with fail
        go_quiet (fail)
        go_wp2_with fail
        go_roundw
        case rel => exact ⟨k + 1, by omega, by go_num, by rw [HT.out]; rfl, XK.out.trans (extN _ _)⟩
        case measure => simp [intOf]; omega
      · go_wp2_with fail
        go_quiet (fail)
        go_wp2_with fail
        go_roundw
        case rel => exact ⟨k + 1, by omega, by go_num, by rw [HT.out]; rfl, XK.out.trans (extN _ _)⟩
        case measure => simp [intOf]; omega
    · have v1 : decide (k < n1) = false := by simp; omega
      obtain rfl : n1 = k := by omega
      rw [show st.s.take n1 = st.s from List.take_of_length_le (by rw [HLL.out.s]; exact Nat.le_refl _), HH.out]
      generalize wr = w4 at *
      have X4 := Lib.hid XK.out
      have hs4 : w.heap.size + 1 + 1 + 1 < w4.heap.size := Nat.lt_of_lt_of_le s3 X4.out.size
      clear y01 y10 y11 XK
      have y00 : w4.cell? ⟨w.heap.size, 0, none⟩ = some (.slice A0 n0 c0) := (K0.out.ext X4.out).cell 0
      have z00 : w4.frozen? ⟨w.heap.size, 0, none⟩ = false := (K0.out.ext X4.out).frozen 0
      have y01 : w4.cell? ⟨w.heap.size, 1, none⟩ = some (.slice A1 n1 c1) := (K0.out.ext X4.out).cell 1
      have z01 : w4.frozen? ⟨w.heap.size, 1, none⟩ = false := (K0.out.ext X4.out).frozen 1
      have y02 : w4.cell? ⟨w.heap.size, 2, none⟩ = some (.slice A2 n2 c2) := (K0.out.ext X4.out).cell 2
      have z02 : w4.frozen? ⟨w.heap.size, 2, none⟩ = false := (K0.out.ext X4.out).frozen 2
      have y10 : w4.cell? ⟨w.heap.size + 1, 0, none⟩ = some (.int .i64 5) := (K1.out.ext X4.out).cell 0
      have y11 : w4.cell? ⟨w.heap.size + 1, 1, none⟩ = some (.int .u32 a) := (K1.out.ext X4.out).cell 1
      have y12 : w4.cell? ⟨w.heap.size + 1, 2, none⟩ = some (.int .u32 b) := (K1.out.ext X4.out).cell 2
      have y20 : w4.cell? ⟨w.heap.size + 1 + 1, 0, none⟩ = some (.slice none 0 0) := (K2.out.ext X4.out).cell 0
      have z20 : w4.frozen? ⟨w.heap.size + 1 + 1, 0, none⟩ = false := (K2.out.ext X4.out).frozen 0
      have y21 : w4.cell? ⟨w.heap.size + 1 + 1, 1, none⟩ = some (.slice none 0 0) := (K2.out.ext X4.out).cell 1
      have z21 : w4.frozen? ⟨w.heap.size + 1 + 1, 1, none⟩ = false := (K2.out.ext X4.out).frozen 1
      have y22 : w4.cell? ⟨w.heap.size + 1 + 1, 2, none⟩ = some (.slice none 0 0) := (K2.out.ext X4.out).cell 2
      have z22 : w4.frozen? ⟨w.heap.size + 1 + 1, 2, none⟩ = false := (K2.out.ext X4.out).frozen 2
      have y30 : w4.cell? ⟨w.heap.size + 1 + 1 + 1, 0, none⟩ = some (.int .i64 0) := (K3.out.ext X4.out).cell 0
      have z30 : w4.frozen? ⟨w.heap.size + 1 + 1 + 1, 0, none⟩ = false := (K3.out.ext X4.out).frozen 0
      have y31 : w4.cell? ⟨w.heap.size + 1 + 1 + 1, 1, none⟩ = some (.int .u32 0) := (K3.out.ext X4.out).cell 1
      have z31 : w4.frozen? ⟨w.heap.size + 1 + 1 + 1, 1, none⟩ = false := (K3.out.ext X4.out).frozen 1
      go_wp2_with fail
      go_loopw [9, 11, 12] (fun h v i wr => h = .bool true ∧ v = .int .u32 0 ∧ i = .int .i64 0 ∧ w4 = wr) (fun _ _ _ _ => 0)
      case atStart => exact ⟨rfl, rfl, rfl, rfl⟩
      case round =>
        obtain ⟨rfl, rfl, rfl, rfl⟩ := hrel
        go_wp2_with fail
        have W0L := K2.out.ext X4.out
        have W0M := K3.out.ext X4.out
        have hfin : Fr (fun q => q = w.heap.size ∨ q = w.heap.size + 1 + 1 ∨ q = w.heap.size + 1 + 1 + 1) w4 (((((w4.setCell ⟨w.heap.size + 1 + 1, 0, none⟩ (.slice A0 n0 c0)).setCell ⟨w.heap.size + 1 + 1, 1, none⟩ (.slice A1 n1 c1)).setCell ⟨w.heap.size + 1 + 1, 2, none⟩ (.slice A2 n2 c2)).setCell ⟨w.heap.size + 1 + 1 + 1, 0, none⟩ (.int .i64 3)).setCell ⟨w.heap.size + 1 + 1 + 1, 1, none⟩ (.int .u32 0)) ∧ ((((((w4.setCell ⟨w.heap.size + 1 + 1, 0, none⟩ (.slice A0 n0 c0)).setCell ⟨w.heap.size + 1 + 1, 1, none⟩ (.slice A1 n1 c1)).setCell ⟨w.heap.size + 1 + 1, 2, none⟩ (.slice A2 n2 c2)).setCell ⟨w.heap.size + 1 + 1 + 1, 0, none⟩ (.int .i64 3)).setCell ⟨w.heap.size + 1 + 1 + 1, 1, none⟩ (.int .u32 0)).cell? ⟨w.heap.size + 1 + 1, 0, none⟩ = some (.slice A0 n0 c0) ∧ (((((w4.setCell ⟨w.heap.size + 1 + 1, 0, none⟩ (.slice A0 n0 c0)).setCell ⟨w.heap.size + 1 + 1, 1, none⟩ (.slice A1 n1 c1)).setCell ⟨w.heap.size + 1 + 1, 2, none⟩ (.slice A2 n2 c2)).setCell ⟨w.heap.size + 1 + 1 + 1, 0, none⟩ (.int .i64 3)).setCell ⟨w.heap.size + 1 + 1 + 1, 1, none⟩ (.int .u32 0)).cell? ⟨w.heap.size + 1 + 1, 1, none⟩ = some (.slice A1 n1 c1) ∧ (((((w4.setCell ⟨w.heap.size + 1 + 1, 0, none⟩ (.slice A0 n0 c0)).setCell ⟨w.heap.size + 1 + 1, 1, none⟩ (.slice A1 n1 c1)).setCell ⟨w.heap.size + 1 + 1, 2, none⟩ (.slice A2 n2 c2)).setCell ⟨w.heap.size + 1 + 1 + 1, 0, none⟩ (.int .i64 3)).setCell ⟨w.heap.size + 1 + 1 + 1, 1, none⟩ (.int .u32 0)).cell? ⟨w.heap.size + 1 + 1, 2, none⟩ = some (.slice A2 n2 c2) ∧ (((((w4.setCell ⟨w.heap.size + 1 + 1, 0, none⟩ (.slice A0 n0 c0)).setCell ⟨w.heap.size + 1 + 1, 1, none⟩ (.slice A1 n1 c1)).setCell ⟨w.heap.size + 1 + 1, 2, none⟩ (.slice A2 n2 c2)).setCell ⟨w.heap.size + 1 + 1 + 1, 0, none⟩ (.int .i64 3)).setCell ⟨w.heap.size + 1 + 1 + 1, 1, none⟩ (.int .u32 0)).cell? ⟨w.heap.size + 1 + 1 + 1, 0, none⟩ = some (.int .i64 3) ∧ (((((w4.setCell ⟨w.heap.size + 1 + 1, 0, none⟩ (.slice A0 n0 c0)).setCell ⟨w.heap.size + 1 + 1, 1, none⟩ (.slice A1 n1 c1)).setCell ⟨w.heap.size + 1 + 1, 2, none⟩ (.slice A2 n2 c2)).setCell ⟨w.heap.size + 1 + 1 + 1, 0, none⟩ (.int .i64 3)).setCell ⟨w.heap.size + 1 + 1 + 1, 1, none⟩ (.int .u32 0)).cell? ⟨w.heap.size + 1 + 1 + 1, 1, none⟩ = some (.int .u32 0)) := fin_ret w4 w.heap.size none (.slice A0 n0 c0) (.slice A1 n1 c1) (.slice A2 n2 c2) 3 0 W0L W0M
        have fz := hfin.1
        have hcs := hfin.2
        clear hfin W0L W0M
        have X7 := fz.ext (X0.out.trans X4.out) (fun q e => by rcases e with e | e | e <;> omega)
        have S7 : StF w (((((w4.setCell ⟨w.heap.size + 1 + 1, 0, none⟩ (.slice A0 n0 c0)).setCell ⟨w.heap.size + 1 + 1, 1, none⟩ (.slice A1 n1 c1)).setCell ⟨w.heap.size + 1 + 1, 2, none⟩ (.slice A2 n2 c2)).setCell ⟨w.heap.size + 1 + 1 + 1, 0, none⟩ (.int .i64 3)).setCell ⟨w.heap.size + 1 + 1 + 1, 1, none⟩ (.int .u32 0)) A0 A1 A2 n0 n1 n2 A0 A1 A2 st := fun W8 f8 => by
          have fz8 : Fr (fun q => (q = w.heap.size ∨ q = w.heap.size + 1 + 1 ∨ q = w.heap.size + 1 + 1 + 1) ∨ OldB w A0 A1 A2 n0 n1 n2 q) w4 W8 := (fz.mono (fun _ _ h => Or.inl h)).trans f8 (fun _ _ h => Or.inr h)
          exact stF_old HLL.out (HS.out.ext X7) f8
        clear y00 y01 y02 y10 y11 y12 y20 y21 y22 y30 y31 z00 z01 z02 z20 z21 z22 z30 z31
        generalize (((((w4.setCell ⟨w.heap.size + 1 + 1, 0, none⟩ (.slice A0 n0 c0)).setCell ⟨w.heap.size + 1 + 1, 1, none⟩ (.slice A1 n1 c1)).setCell ⟨w.heap.size + 1 + 1, 2, none⟩ (.slice A2 n2 c2)).setCell ⟨w.heap.size + 1 + 1 + 1, 0, none⟩ (.int .i64 3)).setCell ⟨w.heap.size + 1 + 1 + 1, 1, none⟩ (.int .u32 0)) = W7 at *
        obtain ⟨q0, q1, q2, q3, q4⟩ := hcs
        exact bodyPost_ret (v := .tuple #[.agg #[.slice A0 n0 c0, .slice A1 n1 c1, .slice A2 n2 c2], .agg #[.int .i64 3, .int .u32 0]]) (by simp [results, Try.results10, go_sem, q0, q1, q2, q3, q4]) rfl ⟨A0, A1, A2, _, _, _, by rw [HLL.out.q, HLL.out.s, HLL.out.m], ⟨by rw [HLL.out.q]; exact HCP.out.1, HCP.out.2⟩, S7, ⟨fun h0 ad e => Or.inl ⟨(by have h9 : 0 < st.q.length := h0; have := HLL.out.q; omega), ad, e, rfl⟩, fun h0 ad e => Or.inl ⟨(by have h9 : 0 < st.s.length := h0; have := HLL.out.s; omega), ad, e, rfl⟩, fun h0 ad e => Or.inl ⟨(by have h9 : 0 < st.m.length := h0; have := HLL.out.m; omega), ad, e, rfl⟩⟩, X7⟩
set_option maxRecDepth 100000 in
set_option maxHeartbeats 4000000 in
theorem rApp5_false (w : World) (A0 A1 A2 : Option Addr) (n0 n1 n2 c0 c1 c2 : Nat) (st : Sta) (a b : Int) (h : StAt w A0 A1 A2 st) (hl : Lens st n0 n1 n2) (m0 : n0 ≤ 1000) (m1 : n1 ≤ 1000) (m2 : n2 ≤ 1000) (hcap : n0 ≤ c0 ∧ c0 ≤ 9223372036854775807) (hh : hasI st.s a = false) :
    Calls Try.prog 10 #[.agg #[.slice A0 n0 c0, .slice A1 n1 c1, .slice A2 n2 c2], .agg #[.int .i64 5, .int .u32 a, .int .u32 b]] w (RPost w A0 A1 A2 n0 n1 n2 (doS st 5 a b).1 (doS st 5 a b).2) := by
  have HH := Lib.hid hh
  have e0 : doS st 5 a b = (st, (4, 0)) := by
    show (st, ((toldK (hasI st.s a) 3 4, 0) : Rs)) = _
    rw [hh]
    rfl
  rw [e0]
  clear e0 hh
  have HS := Lib.hid h
  have HLL := Lib.hid hl
  have HCP := Lib.hid hcap
  obtain ⟨k0, k1, k2, k3⟩ := four_new w (.slice A0 n0 c0) (.slice A1 n1 c1) (.slice A2 n2 c2) 5 a b
  have K0 := Lib.hid k0
  have K1 := Lib.hid k1
  have K2 := Lib.hid k2
  have K3 := Lib.hid k3
  have X0 := Lib.hid (((((Ext.refl w).alloc (.cells #[.slice A0 n0 c0, .slice A1 n1 c1, .slice A2 n2 c2] 25)).alloc (.cells #[.int .i64 5, .int .u32 a, .int .u32 b] 38)).alloc (.cells #[.slice none 0 0, .slice none 0 0, .slice none 0 0] 25)).alloc (.cells #[.int .i64 0, .int .u32 0] 34))
  clear h hl k0 k1 k2 k3 hcap
  go_enter Try.func10, Try.ntmps10
  go_upto_region 1 with fail
  generalize ((((w.alloc (.cells #[.slice A0 n0 c0, .slice A1 n1 c1, .slice A2 n2 c2] 25)).alloc (.cells #[.int .i64 5, .int .u32 a, .int .u32 b] 38)).alloc (.cells #[.slice none 0 0, .slice none 0 0, .slice none 0 0] 25)).alloc (.cells #[.int .i64 0, .int .u32 0] 34)) = W0 at *
  have s3 : w.heap.size + 1 + 1 + 1 < W0.heap.size := K3.out.lt
  have e01 : ¬ w.heap.size = w.heap.size + 1 := by omega
  have e02 : ¬ w.heap.size = w.heap.size + 1 + 1 := by omega
  have e03 : ¬ w.heap.size = w.heap.size + 1 + 1 + 1 := by omega
  have e20 : ¬ w.heap.size + 1 + 1 = w.heap.size := by omega
  have e23 : ¬ w.heap.size + 1 + 1 = w.heap.size + 1 + 1 + 1 := by omega
  have e30 : ¬ w.heap.size + 1 + 1 + 1 = w.heap.size := by omega
  have e32 : ¬ w.heap.size + 1 + 1 + 1 = w.heap.size + 1 + 1 := by omega
  have e10 : ¬ w.heap.size + 1 = w.heap.size := by omega
  have y00 : W0.cell? ⟨w.heap.size, 0, none⟩ = some (.slice A0 n0 c0) := (K0.out.ext (Ext.refl W0)).cell 0
  have z00 : W0.frozen? ⟨w.heap.size, 0, none⟩ = false := (K0.out.ext (Ext.refl W0)).frozen 0
  have y01 : W0.cell? ⟨w.heap.size, 1, none⟩ = some (.slice A1 n1 c1) := (K0.out.ext (Ext.refl W0)).cell 1
  have z01 : W0.frozen? ⟨w.heap.size, 1, none⟩ = false := (K0.out.ext (Ext.refl W0)).frozen 1
  have y02 : W0.cell? ⟨w.heap.size, 2, none⟩ = some (.slice A2 n2 c2) := (K0.out.ext (Ext.refl W0)).cell 2
  have z02 : W0.frozen? ⟨w.heap.size, 2, none⟩ = false := (K0.out.ext (Ext.refl W0)).frozen 2
  have y10 : W0.cell? ⟨w.heap.size + 1, 0, none⟩ = some (.int .i64 5) := (K1.out.ext (Ext.refl W0)).cell 0
  have y11 : W0.cell? ⟨w.heap.size + 1, 1, none⟩ = some (.int .u32 a) := (K1.out.ext (Ext.refl W0)).cell 1
  have y12 : W0.cell? ⟨w.heap.size + 1, 2, none⟩ = some (.int .u32 b) := (K1.out.ext (Ext.refl W0)).cell 2
  have y20 : W0.cell? ⟨w.heap.size + 1 + 1, 0, none⟩ = some (.slice none 0 0) := (K2.out.ext (Ext.refl W0)).cell 0
  have z20 : W0.frozen? ⟨w.heap.size + 1 + 1, 0, none⟩ = false := (K2.out.ext (Ext.refl W0)).frozen 0
  have y21 : W0.cell? ⟨w.heap.size + 1 + 1, 1, none⟩ = some (.slice none 0 0) := (K2.out.ext (Ext.refl W0)).cell 1
  have z21 : W0.frozen? ⟨w.heap.size + 1 + 1, 1, none⟩ = false := (K2.out.ext (Ext.refl W0)).frozen 1
  have y22 : W0.cell? ⟨w.heap.size + 1 + 1, 2, none⟩ = some (.slice none 0 0) := (K2.out.ext (Ext.refl W0)).cell 2
  have z22 : W0.frozen? ⟨w.heap.size + 1 + 1, 2, none⟩ = false := (K2.out.ext (Ext.refl W0)).frozen 2
  have y30 : W0.cell? ⟨w.heap.size + 1 + 1 + 1, 0, none⟩ = some (.int .i64 0) := (K3.out.ext (Ext.refl W0)).cell 0
  have z30 : W0.frozen? ⟨w.heap.size + 1 + 1 + 1, 0, none⟩ = false := (K3.out.ext (Ext.refl W0)).frozen 0
  have y31 : W0.cell? ⟨w.heap.size + 1 + 1 + 1, 1, none⟩ = some (.int .u32 0) := (K3.out.ext (Ext.refl W0)).cell 1
  have z31 : W0.frozen? ⟨w.heap.size + 1 + 1 + 1, 1, none⟩ = false := (K3.out.ext (Ext.refl W0)).frozen 1
  go_wp2_with fail
  clear y00 y01 y02 y10 y11 y12 y20 y21 y22 y30 y31 z00 z01 z02 z20 z21 z22 z30 z31
  go_loopw [9, 10] (fun h i wr => ∃ k : Nat, k ≤ n1 ∧ i = .int .i64 k ∧ h = .bool (hasI (st.s.take k) a) ∧ Ext W0 wr) (fun _ i _ => n1 - (intOf i).toNat)
  case atStart => exact ⟨0, Nat.zero_le _, rfl, rfl, Ext.refl _⟩
  case round =>
    obtain ⟨k, hk, rfl, rfl, xk⟩ := hrel
    have XK := Lib.hid xk
    clear xk
    have y01 : wr.cell? ⟨w.heap.size, 1, none⟩ = some (.slice A1 n1 c1) := (K0.out.ext XK.out).cell 1
    have y10 : wr.cell? ⟨w.heap.size + 1, 0, none⟩ = some (.int .i64 5) := (K1.out.ext XK.out).cell 0
    have y11 : wr.cell? ⟨w.heap.size + 1, 1, none⟩ = some (.int .u32 a) := (K1.out.ext XK.out).cell 1
    by_cases hlt : k < n1
    · have v1 : decide (k < n1) = true := by simp; omega
      have hll := HLL.out.s
      obtain ⟨ad, hA, hbl, hc⟩ := (HS.out.s.ext (X0.out.trans XK.out)) (by omega)
      have q0 := hc k (by omega)
      have HT : Hid (hasI (st.s.take (k + 1)) a = (hasI (st.s.take k) a || (st.s.getD k 0 == a))) := Lib.hid (by rw [take_oneI st.s k (by omega)]; exact hasI_snoc _ _ _)
      generalize st.s.getD k 0 = x at *
      obtain ⟨hb, hhb⟩ : ∃ r, hasI (st.s.take k) a = r := ⟨_, rfl⟩
      obtain ⟨xb, hxb⟩ : ∃ r, (x == a) = r := ⟨_, rfl⟩
      rw [hhb, hxb] at HT
      rw [hhb]
      clear hc hll hhb
      subst hA
      cases hb
      · go_wp2_with fail
        go_quiet (fail)
        go_wp2_with fail
        go_roundw
        case rel => exact ⟨k + 1, by omega, by go_num, by rw [HT.out]; rfl, XK.out.trans (extN _ _)⟩
        case measure => simp [intOf]; omega
      · go_wp2_with fail
        go_quiet (fail)
        go_wp2_with fail
        go_roundw
        case rel => exact ⟨k + 1, by omega, by go_num, by rw [HT.out]; rfl, XK.out.trans (extN _ _)⟩
        case measure => simp [intOf]; omega
    · have v1 : decide (k < n1) = false := by simp; omega
      obtain rfl : n1 = k := by omega
      rw [show st.s.take n1 = st.s from List.take_of_length_le (by rw [HLL.out.s]; exact Nat.le_refl _), HH.out]
      generalize wr = w4 at *
      have X4 := Lib.hid XK.out
      have hs4 : w.heap.size + 1 + 1 + 1 < w4.heap.size := Nat.lt_of_lt_of_le s3 X4.out.size
      clear y01 y10 y11 XK
      have y00 : w4.cell? ⟨w.heap.size, 0, none⟩ = some (.slice A0 n0 c0) := (K0.out.ext X4.out).cell 0
      have z00 : w4.frozen? ⟨w.heap.size, 0, none⟩ = false := (K0.out.ext X4.out).frozen 0
      have y01 : w4.cell? ⟨w.heap.size, 1, none⟩ = some (.slice A1 n1 c1) := (K0.out.ext X4.out).cell 1
      have z01 : w4.frozen? ⟨w.heap.size, 1, none⟩ = false := (K0.out.ext X4.out).frozen 1
      have y02 : w4.cell? ⟨w.heap.size, 2, none⟩ = some (.slice A2 n2 c2) := (K0.out.ext X4.out).cell 2
      have z02 : w4.frozen? ⟨w.heap.size, 2, none⟩ = false := (K0.out.ext X4.out).frozen 2
      have y10 : w4.cell? ⟨w.heap.size + 1, 0, none⟩ = some (.int .i64 5) := (K1.out.ext X4.out).cell 0
      have y11 : w4.cell? ⟨w.heap.size + 1, 1, none⟩ = some (.int .u32 a) := (K1.out.ext X4.out).cell 1
      have y12 : w4.cell? ⟨w.heap.size + 1, 2, none⟩ = some (.int .u32 b) := (K1.out.ext X4.out).cell 2
      have y20 : w4.cell? ⟨w.heap.size + 1 + 1, 0, none⟩ = some (.slice none 0 0) := (K2.out.ext X4.out).cell 0
      have z20 : w4.frozen? ⟨w.heap.size + 1 + 1, 0, none⟩ = false := (K2.out.ext X4.out).frozen 0
      have y21 : w4.cell? ⟨w.heap.size + 1 + 1, 1, none⟩ = some (.slice none 0 0) := (K2.out.ext X4.out).cell 1
      have z21 : w4.frozen? ⟨w.heap.size + 1 + 1, 1, none⟩ = false := (K2.out.ext X4.out).frozen 1
      have y22 : w4.cell? ⟨w.heap.size + 1 + 1, 2, none⟩ = some (.slice none 0 0) := (K2.out.ext X4.out).cell 2
      have z22 : w4.frozen? ⟨w.heap.size + 1 + 1, 2, none⟩ = false := (K2.out.ext X4.out).frozen 2
      have y30 : w4.cell? ⟨w.heap.size + 1 + 1 + 1, 0, none⟩ = some (.int .i64 0) := (K3.out.ext X4.out).cell 0
      have z30 : w4.frozen? ⟨w.heap.size + 1 + 1 + 1, 0, none⟩ = false := (K3.out.ext X4.out).frozen 0
      have y31 : w4.cell? ⟨w.heap.size + 1 + 1 + 1, 1, none⟩ = some (.int .u32 0) := (K3.out.ext X4.out).cell 1
      have z31 : w4.frozen? ⟨w.heap.size + 1 + 1 + 1, 1, none⟩ = false := (K3.out.ext X4.out).frozen 1
      go_wp2_with fail
      go_loopw [9, 11, 12] (fun h v i wr => h = .bool false ∧ v = .int .u32 0 ∧ i = .int .i64 0 ∧ w4 = wr) (fun _ _ _ _ => 0)
      case atStart => exact ⟨rfl, rfl, rfl, rfl⟩
      case round =>
        obtain ⟨rfl, rfl, rfl, rfl⟩ := hrel
        go_wp2_with fail
        have W0L := K2.out.ext X4.out
        have W0M := K3.out.ext X4.out
        have hfin : Fr (fun q => q = w.heap.size ∨ q = w.heap.size + 1 + 1 ∨ q = w.heap.size + 1 + 1 + 1) w4 (((((w4.setCell ⟨w.heap.size + 1 + 1, 0, none⟩ (.slice A0 n0 c0)).setCell ⟨w.heap.size + 1 + 1, 1, none⟩ (.slice A1 n1 c1)).setCell ⟨w.heap.size + 1 + 1, 2, none⟩ (.slice A2 n2 c2)).setCell ⟨w.heap.size + 1 + 1 + 1, 0, none⟩ (.int .i64 4)).setCell ⟨w.heap.size + 1 + 1 + 1, 1, none⟩ (.int .u32 0)) ∧ ((((((w4.setCell ⟨w.heap.size + 1 + 1, 0, none⟩ (.slice A0 n0 c0)).setCell ⟨w.heap.size + 1 + 1, 1, none⟩ (.slice A1 n1 c1)).setCell ⟨w.heap.size + 1 + 1, 2, none⟩ (.slice A2 n2 c2)).setCell ⟨w.heap.size + 1 + 1 + 1, 0, none⟩ (.int .i64 4)).setCell ⟨w.heap.size + 1 + 1 + 1, 1, none⟩ (.int .u32 0)).cell? ⟨w.heap.size + 1 + 1, 0, none⟩ = some (.slice A0 n0 c0) ∧ (((((w4.setCell ⟨w.heap.size + 1 + 1, 0, none⟩ (.slice A0 n0 c0)).setCell ⟨w.heap.size + 1 + 1, 1, none⟩ (.slice A1 n1 c1)).setCell ⟨w.heap.size + 1 + 1, 2, none⟩ (.slice A2 n2 c2)).setCell ⟨w.heap.size + 1 + 1 + 1, 0, none⟩ (.int .i64 4)).setCell ⟨w.heap.size + 1 + 1 + 1, 1, none⟩ (.int .u32 0)).cell? ⟨w.heap.size + 1 + 1, 1, none⟩ = some (.slice A1 n1 c1) ∧ (((((w4.setCell ⟨w.heap.size + 1 + 1, 0, none⟩ (.slice A0 n0 c0)).setCell ⟨w.heap.size + 1 + 1, 1, none⟩ (.slice A1 n1 c1)).setCell ⟨w.heap.size + 1 + 1, 2, none⟩ (.slice A2 n2 c2)).setCell ⟨w.heap.size + 1 + 1 + 1, 0, none⟩ (.int .i64 4)).setCell ⟨w.heap.size + 1 + 1 + 1, 1, none⟩ (.int .u32 0)).cell? ⟨w.heap.size + 1 + 1, 2, none⟩ = some (.slice A2 n2 c2) ∧ (((((w4.setCell ⟨w.heap.size + 1 + 1, 0, none⟩ (.slice A0 n0 c0)).setCell ⟨w.heap.size + 1 + 1, 1, none⟩ (.slice A1 n1 c1)).setCell ⟨w.heap.size + 1 + 1, 2, none⟩ (.slice A2 n2 c2)).setCell ⟨w.heap.size + 1 + 1 + 1, 0, none⟩ (.int .i64 4)).setCell ⟨w.heap.size + 1 + 1 + 1, 1, none⟩ (.int .u32 0)).cell? ⟨w.heap.size + 1 + 1 + 1, 0, none⟩ = some (.int .i64 4) ∧ (((((w4.setCell ⟨w.heap.size + 1 + 1, 0, none⟩ (.slice A0 n0 c0)).setCell ⟨w.heap.size + 1 + 1, 1, none⟩ (.slice A1 n1 c1)).setCell ⟨w.heap.size + 1 + 1, 2, none⟩ (.slice A2 n2 c2)).setCell ⟨w.heap.size + 1 + 1 + 1, 0, none⟩ (.int .i64 4)).setCell ⟨w.heap.size + 1 + 1 + 1, 1, none⟩ (.int .u32 0)).cell? ⟨w.heap.size + 1 + 1 + 1, 1, none⟩ = some (.int .u32 0)) := fin_ret w4 w.heap.size none (.slice A0 n0 c0) (.slice A1 n1 c1) (.slice A2 n2 c2) 4 0 W0L W0M
        have fz := hfin.1
        have hcs := hfin.2
        clear hfin W0L W0M
        have X7 := fz.ext (X0.out.trans X4.out) (fun q e => by rcases e with e | e | e <;> omega)
        have S7 : StF w (((((w4.setCell ⟨w.heap.size + 1 + 1, 0, none⟩ (.slice A0 n0 c0)).setCell ⟨w.heap.size + 1 + 1, 1, none⟩ (.slice A1 n1 c1)).setCell ⟨w.heap.size + 1 + 1, 2, none⟩ (.slice A2 n2 c2)).setCell ⟨w.heap.size + 1 + 1 + 1, 0, none⟩ (.int .i64 4)).setCell ⟨w.heap.size + 1 + 1 + 1, 1, none⟩ (.int .u32 0)) A0 A1 A2 n0 n1 n2 A0 A1 A2 st := fun W8 f8 => by
          have fz8 : Fr (fun q => (q = w.heap.size ∨ q = w.heap.size + 1 + 1 ∨ q = w.heap.size + 1 + 1 + 1) ∨ OldB w A0 A1 A2 n0 n1 n2 q) w4 W8 := (fz.mono (fun _ _ h => Or.inl h)).trans f8 (fun _ _ h => Or.inr h)
          exact stF_old HLL.out (HS.out.ext X7) f8
        clear y00 y01 y02 y10 y11 y12 y20 y21 y22 y30 y31 z00 z01 z02 z20 z21 z22 z30 z31
        generalize (((((w4.setCell ⟨w.heap.size + 1 + 1, 0, none⟩ (.slice A0 n0 c0)).setCell ⟨w.heap.size + 1 + 1, 1, none⟩ (.slice A1 n1 c1)).setCell ⟨w.heap.size + 1 + 1, 2, none⟩ (.slice A2 n2 c2)).setCell ⟨w.heap.size + 1 + 1 + 1, 0, none⟩ (.int .i64 4)).setCell ⟨w.heap.size + 1 + 1 + 1, 1, none⟩ (.int .u32 0)) = W7 at *
        obtain ⟨q0, q1, q2, q3, q4⟩ := hcs
        exact bodyPost_ret (v := .tuple #[.agg #[.slice A0 n0 c0, .slice A1 n1 c1, .slice A2 n2 c2], .agg #[.int .i64 4, .int .u32 0]]) (by simp [results, Try.results10, go_sem, q0, q1, q2, q3, q4]) rfl ⟨A0, A1, A2, _, _, _, by rw [HLL.out.q, HLL.out.s, HLL.out.m], ⟨by rw [HLL.out.q]; exact HCP.out.1, HCP.out.2⟩, S7, ⟨fun h0 ad e => Or.inl ⟨(by have h9 : 0 < st.q.length := h0; have := HLL.out.q; omega), ad, e, rfl⟩, fun h0 ad e => Or.inl ⟨(by have h9 : 0 < st.s.length := h0; have := HLL.out.s; omega), ad, e, rfl⟩, fun h0 ad e => Or.inl ⟨(by have h9 : 0 < st.m.length := h0; have := HLL.out.m; omega), ad, e, rfl⟩⟩, X7⟩
end Go.Proofs.Ythbngenjcgclgaa
