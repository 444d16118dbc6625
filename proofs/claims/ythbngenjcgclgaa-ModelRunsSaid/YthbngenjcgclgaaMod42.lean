/- Layer 8: the document's Apply, of the map. Conditions: those that each theorem names. -/
import Derived.Test.YthbngenjcgclgaaMod39
namespace Go.Proofs.Ythbngenjcgclgaa
open Go.ChangeShapes Go.WideShapes Go.ChangeAt Go.RowKit
set_option linter.unusedVariables false
theorem hasP_snoc : ∀ (l : List Pr) (x : Pr) (a : Int), hasP (l ++ [x]) a = (hasP l a || (x.1 == a))
  | [], x, a => by
    by_cases h : x.1 = a <;> simp [hasP, h]
  | y :: l, x, a => by
    rw [List.cons_append]
    unfold hasP
    by_cases h : y.1 = a
    · simp [h]
    · rw [if_neg h, if_neg h, hasP_snoc l x a]
theorem findP_snoc : ∀ (l : List Pr) (x : Pr) (a : Int), ¬ x.1 = a → findP (l ++ [x]) a = findP l a
  | [], x, a, h => by simp [findP, h]
  | y :: l, x, a, h => by
    rw [List.cons_append]
    unfold findP
    by_cases h' : y.1 = a
    · rw [if_pos h', if_pos h']
    · rw [if_neg h', if_neg h', findP_snoc l x a h]
theorem pair_step (l : List Pr) (a : Int) (k : Nat) (hk : k < l.length) (hp : l.Pairwise (fun p q => p.1 < q.1)) :
    hasP (l.take (k + 1)) a = (hasP (l.take k) a || ((l.getD k (0, 0)).1 == a)) ∧ (((l.getD k (0, 0)).1 = a → (findP (l.take (k + 1)) a).2 = (l.getD k (0, 0)).2) ∧ (¬ (l.getD k (0, 0)).1 = a → (findP (l.take (k + 1)) a).2 = (findP (l.take k) a).2)) := by
  have e : l.take (k + 1) = l.take k ++ [l.getD k (0, 0)] := by
    rw [List.take_succ_eq_append_getElem hk, List.getD_eq_getElem?_getD, List.getElem?_eq_getElem hk]
    rfl
  have hs : (l.take (k + 1)).Pairwise (fun p q => p.1 < q.1) := hp.sublist (List.take_sublist _ _)
  refine ⟨by rw [e]; exact hasP_snoc _ _ _, fun hx => ?_, fun hx => by rw [e, findP_snoc _ _ _ hx]⟩
  have hm : (a, (l.getD k (0, 0)).2) ∈ l.take (k + 1) := by
    rw [e]
    refine List.mem_append.2 (Or.inr ?_)
    rw [← hx]
    simp
  rw [findP_mem _ _ _ hs hm]
theorem left_selfP (l : List Pr) (a : Int) (h : hasP l a = false) : left (CutP a) l = l := left_all (fun p hp => by
  unfold CutP
  simp
  intro e
  rw [(hasP_mem l a).2 ⟨p.2, by rw [← e]; exact hp⟩] at h
  cases h)
set_option maxRecDepth 100000 in
set_option maxHeartbeats 4000000 in
theorem rApp6_true (w : World) (A0 A1 A2 : Option Addr) (n0 n1 n2 c0 c1 c2 : Nat) (st : Sta) (a b : Int) (h : StAt w A0 A1 A2 st) (hl : Lens st n0 n1 n2) (m0 : n0 ≤ 1000) (m1 : n1 ≤ 1000) (m2 : n2 ≤ 1000) (hcap : n0 ≤ c0 ∧ c0 ≤ 9223372036854775807) (up : st.m.Pairwise (fun p q => p.1 < q.1)) (hh : hasP st.m a = true) :
    Calls Try.prog 10 #[.agg #[.slice A0 n0 c0, .slice A1 n1 c1, .slice A2 n2 c2], .agg #[.int .i64 6, .int .u32 a, .int .u32 b]] w (RPost w A0 A1 A2 n0 n1 n2 (doS st 6 a b).1 (doS st 6 a b).2) := by
  obtain ⟨fv, hf⟩ : ∃ fv, (findP st.m a).2 = fv := ⟨_, rfl⟩
  have HH := Lib.hid hh
  have HF := Lib.hid hf
  have UP := Lib.hid up
  have e0 : doS st 6 a b = (st, (3, fv)) := by unfold doS; simp [hh, hf]
  rw [e0]
  clear e0 hh hf up
  have HS := Lib.hid h
  have HLL := Lib.hid hl
  have HCP := Lib.hid hcap
  obtain ⟨k0, k1, k2, k3⟩ := four_new w (.slice A0 n0 c0) (.slice A1 n1 c1) (.slice A2 n2 c2) 6 a b
  have K0 := Lib.hid k0
  have K1 := Lib.hid k1
  have K2 := Lib.hid k2
  have K3 := Lib.hid k3
  have X0 := Lib.hid (((((Ext.refl w).alloc (.cells #[.slice A0 n0 c0, .slice A1 n1 c1, .slice A2 n2 c2] 25)).alloc (.cells #[.int .i64 6, .int .u32 a, .int .u32 b] 38)).alloc (.cells #[.slice none 0 0, .slice none 0 0, .slice none 0 0] 25)).alloc (.cells #[.int .i64 0, .int .u32 0] 34))
  clear h hl k0 k1 k2 k3 hcap
  go_enter Try.func10, Try.ntmps10
  go_upto_region 1 with fail
  generalize ((((w.alloc (.cells #[.slice A0 n0 c0, .slice A1 n1 c1, .slice A2 n2 c2] 25)).alloc (.cells #[.int .i64 6, .int .u32 a, .int .u32 b] 38)).alloc (.cells #[.slice none 0 0, .slice none 0 0, .slice none 0 0] 25)).alloc (.cells #[.int .i64 0, .int .u32 0] 34)) = W0 at *
  have s3 : w.heap.size + 1 + 1 + 1 < W0.heap.size := K3.out.lt
  have e01 : ¬ w.heap.size = w.heap.size + 1 := by omega
  have e02 : ¬ w.heap.size = w.heap.size + 1 + 1 := by omega
  have e03 : ¬ w.heap.size = w.heap.size + 1 + 1 + 1 := by omega
  have e20 : ¬ w.heap.size + 1 + 1 = w.heap.size := by omega
  have e23 : ¬ w.heap.size + 1 + 1 = w.heap.size + 1 + 1 + 1 := by omega
  have e30 : ¬ w.heap.size + 1 + 1 + 1 = w.heap.size := by omega
  have e32 : ¬ w.heap.size + 1 + 1 + 1 = w.heap.size + 1 + 1 := by omega
  have e10 : ¬ w.heap.size + 1 = w.heap.size := by omega
  have y00 : W0.cell? ⟨w.heap.size, 0, none⟩ = some (.slice A0 n0 c0) := (K0.out.ext (Ext.refl W0)).cell 0
  have z00 : W0.frozen? ⟨w.heap.size, 0, none⟩ = false := (K0.out.ext (Ext.refl W0)).frozen 0
  have y01 : W0.cell? ⟨w.heap.size, 1, none⟩ = some (.slice A1 n1 c1) := (K0.out.ext (Ext.refl W0)).cell 1
  have z01 : W0.frozen? ⟨w.heap.size, 1, none⟩ = false := (K0.out.ext (Ext.refl W0)).frozen 1
  have y02 : W0.cell? ⟨w.heap.size, 2, none⟩ = some (.slice A2 n2 c2) := (K0.out.ext (Ext.refl W0)).cell 2
  have z02 : W0.frozen? ⟨w.heap.size, 2, none⟩ = false := (K0.out.ext (Ext.refl W0)).frozen 2
  have y10 : W0.cell? ⟨w.heap.size + 1, 0, none⟩ = some (.int .i64 6) := (K1.out.ext (Ext.refl W0)).cell 0
  have y11 : W0.cell? ⟨w.heap.size + 1, 1, none⟩ = some (.int .u32 a) := (K1.out.ext (Ext.refl W0)).cell 1
  have y12 : W0.cell? ⟨w.heap.size + 1, 2, none⟩ = some (.int .u32 b) := (K1.out.ext (Ext.refl W0)).cell 2
  have y20 : W0.cell? ⟨w.heap.size + 1 + 1, 0, none⟩ = some (.slice none 0 0) := (K2.out.ext (Ext.refl W0)).cell 0
  have z20 : W0.frozen? ⟨w.heap.size + 1 + 1, 0, none⟩ = false := (K2.out.ext (Ext.refl W0)).frozen 0
  have y21 : W0.cell? ⟨w.heap.size + 1 + 1, 1, none⟩ = some (.slice none 0 0) := (K2.out.ext (Ext.refl W0)).cell 1
  have z21 : W0.frozen? ⟨w.heap.size + 1 + 1, 1, none⟩ = false := (K2.out.ext (Ext.refl W0)).frozen 1
  have y22 : W0.cell? ⟨w.heap.size + 1 + 1, 2, none⟩ = some (.slice none 0 0) := (K2.out.ext (Ext.refl W0)).cell 2
  have z22 : W0.frozen? ⟨w.heap.size + 1 + 1, 2, none⟩ = false := (K2.out.ext (Ext.refl W0)).frozen 2
  have y30 : W0.cell? ⟨w.heap.size + 1 + 1 + 1, 0, none⟩ = some (.int .i64 0) := (K3.out.ext (Ext.refl W0)).cell 0
  have z30 : W0.frozen? ⟨w.heap.size + 1 + 1 + 1, 0, none⟩ = false := (K3.out.ext (Ext.refl W0)).frozen 0
  have y31 : W0.cell? ⟨w.heap.size + 1 + 1 + 1, 1, none⟩ = some (.int .u32 0) := (K3.out.ext (Ext.refl W0)).cell 1
  have z31 : W0.frozen? ⟨w.heap.size + 1 + 1 + 1, 1, none⟩ = false := (K3.out.ext (Ext.refl W0)).frozen 1
  go_wp2_with fail
  go_loopw [9, 10] (fun h i wr => h = .bool false ∧ i = .int .i64 0 ∧ W0 = wr) (fun _ _ _ => 0)
  case atStart => exact ⟨rfl, rfl, rfl⟩
  case round =>
  obtain ⟨rfl, rfl, rfl⟩ := hrel
  go_wp2_with fail
  clear y00 y01 y02 y10 y11 y12 y20 y21 y22 y30 y31 z00 z01 z02 z20 z21 z22 z30 z31
  go_loopw [9, 11, 12] (fun h v i wr => ∃ k : Nat, k ≤ n2 ∧ i = .int .i64 k ∧ h = .bool (hasP (st.m.take k) a) ∧ v = .int .u32 (findP (st.m.take k) a).2 ∧ Ext W0 wr) (fun _ _ i _ => n2 - (intOf i).toNat)
  case atStart => exact ⟨0, Nat.zero_le _, rfl, rfl, rfl, Ext.refl _⟩
  case round =>
    obtain ⟨k, hk, rfl, rfl, rfl, xk⟩ := hrel
    have XK := Lib.hid xk
    clear xk
    have y02 : wr.cell? ⟨w.heap.size, 2, none⟩ = some (.slice A2 n2 c2) := (K0.out.ext XK.out).cell 2
    have y10 : wr.cell? ⟨w.heap.size + 1, 0, none⟩ = some (.int .i64 6) := (K1.out.ext XK.out).cell 0
    have y11 : wr.cell? ⟨w.heap.size + 1, 1, none⟩ = some (.int .u32 a) := (K1.out.ext XK.out).cell 1
    by_cases hlt : k < n2
    · have v1 : decide (k < n2) = true := by simp; omega
      have hll := HLL.out.m
      obtain ⟨ad, hA, hbl, hc⟩ := (HS.out.m.ext (X0.out.trans XK.out)) (by omega)
      obtain ⟨q0, q1⟩ := hc k (by omega)
      have HT := Lib.hid (pair_step st.m a k (by omega) UP.out)
      generalize st.m.getD k (0, 0) = x at *
      obtain ⟨xk, xv⟩ := x
      simp only at q0 q1
      clear hc hll
      subst hA
      generalize hasP (st.m.take k) a = hb at *
      generalize (findP (st.m.take k) a).2 = fv at *
      by_cases he : xk = a
      · have t1 : (xk == a) = true := by rw [he]; exact beq_self_eq_true a
        have HH1 : Hid (hasP (st.m.take (k + 1)) a = true) := Lib.hid (by rw [HT.out.1]; simp [he])
        have HH2 : Hid ((findP (st.m.take (k + 1)) a).2 = xv) := Lib.hid (HT.out.2.1 he)
        clear he
        go_wp2_with fail
        go_quiet (fail)
        go_wp2_with fail
        go_roundw
        case rel => exact ⟨k + 1, by omega, by go_num, by rw [HH1.out], by rw [HH2.out], XK.out.trans (extN _ _)⟩
        case measure => simp [intOf]; omega
      · have t1 : (xk == a) = false := by rw [beq_eq_false_iff_ne]; exact he
        have HH1 : Hid (hasP (st.m.take (k + 1)) a = hb) := Lib.hid (by rw [HT.out.1]; simp [he])
        have HH2 : Hid ((findP (st.m.take (k + 1)) a).2 = fv) := Lib.hid (HT.out.2.2 he)
        clear he
        go_wp2_with fail
        go_quiet (fail)
        go_wp2_with fail
        go_roundw
        case rel => exact ⟨k + 1, by omega, by go_num, by rw [HH1.out], by rw [HH2.out], XK.out.trans (extN _ _)⟩
        case measure => simp [intOf]; omega
    · have v1 : decide (k < n2) = false := by simp; omega
      obtain rfl : n2 = k := by omega
      rw [show st.m.take n2 = st.m from List.take_of_length_le (by rw [HLL.out.m]; exact Nat.le_refl _), HH.out, HF.out]
      generalize wr = w4 at *
      have X4 := Lib.hid XK.out
      have hs4 : w.heap.size + 1 + 1 + 1 < w4.heap.size := Nat.lt_of_lt_of_le s3 X4.out.size
      clear y02 y10 y11 XK
      have y00 : w4.cell? ⟨w.heap.size, 0, none⟩ = some (.slice A0 n0 c0) := (K0.out.ext X4.out).cell 0
      have z00 : w4.frozen? ⟨w.heap.size, 0, none⟩ = false := (K0.out.ext X4.out).frozen 0
      have y01 : w4.cell? ⟨w.heap.size, 1, none⟩ = some (.slice A1 n1 c1) := (K0.out.ext X4.out).cell 1
      have z01 : w4.frozen? ⟨w.heap.size, 1, none⟩ = false := (K0.out.ext X4.out).frozen 1
      have y02 : w4.cell? ⟨w.heap.size, 2, none⟩ = some (.slice A2 n2 c2) := (K0.out.ext X4.out).cell 2
      have z02 : w4.frozen? ⟨w.heap.size, 2, none⟩ = false := (K0.out.ext X4.out).frozen 2
      have y10 : w4.cell? ⟨w.heap.size + 1, 0, none⟩ = some (.int .i64 6) := (K1.out.ext X4.out).cell 0
      have y11 : w4.cell? ⟨w.heap.size + 1, 1, none⟩ = some (.int .u32 a) := (K1.out.ext X4.out).cell 1
      have y12 : w4.cell? ⟨w.heap.size + 1, 2, none⟩ = some (.int .u32 b) := (K1.out.ext X4.out).cell 2
      have y20 : w4.cell? ⟨w.heap.size + 1 + 1, 0, none⟩ = some (.slice none 0 0) := (K2.out.ext X4.out).cell 0
      have z20 : w4.frozen? ⟨w.heap.size + 1 + 1, 0, none⟩ = false := (K2.out.ext X4.out).frozen 0
      have y21 : w4.cell? ⟨w.heap.size + 1 + 1, 1, none⟩ = some (.slice none 0 0) := (K2.out.ext X4.out).cell 1
      have z21 : w4.frozen? ⟨w.heap.size + 1 + 1, 1, none⟩ = false := (K2.out.ext X4.out).frozen 1
      have y22 : w4.cell? ⟨w.heap.size + 1 + 1, 2, none⟩ = some (.slice none 0 0) := (K2.out.ext X4.out).cell 2
      have z22 : w4.frozen? ⟨w.heap.size + 1 + 1, 2, none⟩ = false := (K2.out.ext X4.out).frozen 2
      have y30 : w4.cell? ⟨w.heap.size + 1 + 1 + 1, 0, none⟩ = some (.int .i64 0) := (K3.out.ext X4.out).cell 0
      have z30 : w4.frozen? ⟨w.heap.size + 1 + 1 + 1, 0, none⟩ = false := (K3.out.ext X4.out).frozen 0
      have y31 : w4.cell? ⟨w.heap.size + 1 + 1 + 1, 1, none⟩ = some (.int .u32 0) := (K3.out.ext X4.out).cell 1
      have z31 : w4.frozen? ⟨w.heap.size + 1 + 1 + 1, 1, none⟩ = false := (K3.out.ext X4.out).frozen 1
      go_wp2_with fail
      have W0L := K2.out.ext X4.out
      have W0M := K3.out.ext X4.out
      have hfin : Fr (fun q => q = w.heap.size ∨ q = w.heap.size + 1 + 1 ∨ q = w.heap.size + 1 + 1 + 1) w4 (((((w4.setCell ⟨w.heap.size + 1 + 1, 0, none⟩ (.slice A0 n0 c0)).setCell ⟨w.heap.size + 1 + 1, 1, none⟩ (.slice A1 n1 c1)).setCell ⟨w.heap.size + 1 + 1, 2, none⟩ (.slice A2 n2 c2)).setCell ⟨w.heap.size + 1 + 1 + 1, 0, none⟩ (.int .i64 3)).setCell ⟨w.heap.size + 1 + 1 + 1, 1, none⟩ (.int .u32 fv)) ∧ ((((((w4.setCell ⟨w.heap.size + 1 + 1, 0, none⟩ (.slice A0 n0 c0)).setCell ⟨w.heap.size + 1 + 1, 1, none⟩ (.slice A1 n1 c1)).setCell ⟨w.heap.size + 1 + 1, 2, none⟩ (.slice A2 n2 c2)).setCell ⟨w.heap.size + 1 + 1 + 1, 0, none⟩ (.int .i64 3)).setCell ⟨w.heap.size + 1 + 1 + 1, 1, none⟩ (.int .u32 fv)).cell? ⟨w.heap.size + 1 + 1, 0, none⟩ = some (.slice A0 n0 c0) ∧ (((((w4.setCell ⟨w.heap.size + 1 + 1, 0, none⟩ (.slice A0 n0 c0)).setCell ⟨w.heap.size + 1 + 1, 1, none⟩ (.slice A1 n1 c1)).setCell ⟨w.heap.size + 1 + 1, 2, none⟩ (.slice A2 n2 c2)).setCell ⟨w.heap.size + 1 + 1 + 1, 0, none⟩ (.int .i64 3)).setCell ⟨w.heap.size + 1 + 1 + 1, 1, none⟩ (.int .u32 fv)).cell? ⟨w.heap.size + 1 + 1, 1, none⟩ = some (.slice A1 n1 c1) ∧ (((((w4.setCell ⟨w.heap.size + 1 + 1, 0, none⟩ (.slice A0 n0 c0)).setCell ⟨w.heap.size + 1 + 1, 1, none⟩ (.slice A1 n1 c1)).setCell ⟨w.heap.size + 1 + 1, 2, none⟩ (.slice A2 n2 c2)).setCell ⟨w.heap.size + 1 + 1 + 1, 0, none⟩ (.int .i64 3)).setCell ⟨w.heap.size + 1 + 1 + 1, 1, none⟩ (.int .u32 fv)).cell? ⟨w.heap.size + 1 + 1, 2, none⟩ = some (.slice A2 n2 c2) ∧ (((((w4.setCell ⟨w.heap.size + 1 + 1, 0, none⟩ (.slice A0 n0 c0)).setCell ⟨w.heap.size + 1 + 1, 1, none⟩ (.slice A1 n1 c1)).setCell ⟨w.heap.size + 1 + 1, 2, none⟩ (.slice A2 n2 c2)).setCell ⟨w.heap.size + 1 + 1 + 1, 0, none⟩ (.int .i64 3)).setCell ⟨w.heap.size + 1 + 1 + 1, 1, none⟩ (.int .u32 fv)).cell? ⟨w.heap.size + 1 + 1 + 1, 0, none⟩ = some (.int .i64 3) ∧ (((((w4.setCell ⟨w.heap.size + 1 + 1, 0, none⟩ (.slice A0 n0 c0)).setCell ⟨w.heap.size + 1 + 1, 1, none⟩ (.slice A1 n1 c1)).setCell ⟨w.heap.size + 1 + 1, 2, none⟩ (.slice A2 n2 c2)).setCell ⟨w.heap.size + 1 + 1 + 1, 0, none⟩ (.int .i64 3)).setCell ⟨w.heap.size + 1 + 1 + 1, 1, none⟩ (.int .u32 fv)).cell? ⟨w.heap.size + 1 + 1 + 1, 1, none⟩ = some (.int .u32 fv)) := fin_ret w4 w.heap.size none (.slice A0 n0 c0) (.slice A1 n1 c1) (.slice A2 n2 c2) 3 fv W0L W0M
      have fz := hfin.1
      have hcs := hfin.2
      clear hfin W0L W0M
      have X7 := fz.ext (X0.out.trans X4.out) (fun q e => by rcases e with e | e | e <;> omega)
      have S7 : StF w (((((w4.setCell ⟨w.heap.size + 1 + 1, 0, none⟩ (.slice A0 n0 c0)).setCell ⟨w.heap.size + 1 + 1, 1, none⟩ (.slice A1 n1 c1)).setCell ⟨w.heap.size + 1 + 1, 2, none⟩ (.slice A2 n2 c2)).setCell ⟨w.heap.size + 1 + 1 + 1, 0, none⟩ (.int .i64 3)).setCell ⟨w.heap.size + 1 + 1 + 1, 1, none⟩ (.int .u32 fv)) A0 A1 A2 n0 n1 n2 A0 A1 A2 st := fun W8 f8 => by
        have fz8 : Fr (fun q => (q = w.heap.size ∨ q = w.heap.size + 1 + 1 ∨ q = w.heap.size + 1 + 1 + 1) ∨ OldB w A0 A1 A2 n0 n1 n2 q) w4 W8 := (fz.mono (fun _ _ h => Or.inl h)).trans f8 (fun _ _ h => Or.inr h)
        exact stF_old HLL.out (HS.out.ext X7) f8
      clear y00 y01 y02 y10 y11 y12 y20 y21 y22 y30 y31 z00 z01 z02 z20 z21 z22 z30 z31
      generalize (((((w4.setCell ⟨w.heap.size + 1 + 1, 0, none⟩ (.slice A0 n0 c0)).setCell ⟨w.heap.size + 1 + 1, 1, none⟩ (.slice A1 n1 c1)).setCell ⟨w.heap.size + 1 + 1, 2, none⟩ (.slice A2 n2 c2)).setCell ⟨w.heap.size + 1 + 1 + 1, 0, none⟩ (.int .i64 3)).setCell ⟨w.heap.size + 1 + 1 + 1, 1, none⟩ (.int .u32 fv)) = W7 at *
      obtain ⟨q0, q1, q2, q3, q4⟩ := hcs
      exact bodyPost_ret (v := .tuple #[.agg #[.slice A0 n0 c0, .slice A1 n1 c1, .slice A2 n2 c2], .agg #[.int .i64 3, .int .u32 fv]]) (by simp [results, Try.results10, go_sem, q0, q1, q2, q3, q4]) rfl ⟨A0, A1, A2, _, _, _, by rw [HLL.out.q, HLL.out.s, HLL.out.m], ⟨by rw [HLL.out.q]; exact HCP.out.1, HCP.out.2⟩, S7, ⟨fun h0 ad e => Or.inl ⟨(by have h9 : 0 < st.q.length := h0; have := HLL.out.q; omega), ad, e, rfl⟩, fun h0 ad e => Or.inl ⟨(by have h9 : 0 < st.s.length := h0; have := HLL.out.s; omega), ad, e, rfl⟩, fun h0 ad e => Or.inl ⟨(by have h9 : 0 < st.m.length := h0; have := HLL.out.m; omega), ad, e, rfl⟩⟩, X7⟩
set_option maxRecDepth 100000 in
set_option maxHeartbeats 4000000 in
theorem rApp6_false (w : World) (A0 A1 A2 : Option Addr) (n0 n1 n2 c0 c1 c2 : Nat) (st : Sta) (a b : Int) (h : StAt w A0 A1 A2 st) (hl : Lens st n0 n1 n2) (m0 : n0 ≤ 1000) (m1 : n1 ≤ 1000) (m2 : n2 ≤ 1000) (hcap : n0 ≤ c0 ∧ c0 ≤ 9223372036854775807) (up : st.m.Pairwise (fun p q => p.1 < q.1)) (hh : hasP st.m a = false) :
    Calls Try.prog 10 #[.agg #[.slice A0 n0 c0, .slice A1 n1 c1, .slice A2 n2 c2], .agg #[.int .i64 6, .int .u32 a, .int .u32 b]] w (RPost w A0 A1 A2 n0 n1 n2 (doS st 6 a b).1 (doS st 6 a b).2) := by
  have hf : (findP st.m a).2 = 0 := by rw [findP_no st.m a hh]
  have HH := Lib.hid hh
  have HF := Lib.hid hf
  have UP := Lib.hid up
  have e0 : doS st 6 a b = (⟨st.q, st.s, insP st.m (posP st.m a) (a, b)⟩, (1, 0)) := by unfold doS; simp [hh]
  rw [e0]
  clear e0 hh hf up
  have HS := Lib.hid h
  have HLL := Lib.hid hl
  have HCP := Lib.hid hcap
  obtain ⟨k0, k1, k2, k3⟩ := four_new w (.slice A0 n0 c0) (.slice A1 n1 c1) (.slice A2 n2 c2) 6 a b
  have K0 := Lib.hid k0
  have K1 := Lib.hid k1
  have K2 := Lib.hid k2
  have K3 := Lib.hid k3
  have X0 := Lib.hid (((((Ext.refl w).alloc (.cells #[.slice A0 n0 c0, .slice A1 n1 c1, .slice A2 n2 c2] 25)).alloc (.cells #[.int .i64 6, .int .u32 a, .int .u32 b] 38)).alloc (.cells #[.slice none 0 0, .slice none 0 0, .slice none 0 0] 25)).alloc (.cells #[.int .i64 0, .int .u32 0] 34))
  clear h hl k0 k1 k2 k3 hcap
  go_enter Try.func10, Try.ntmps10
  go_upto_region 1 with fail
  generalize ((((w.alloc (.cells #[.slice A0 n0 c0, .slice A1 n1 c1, .slice A2 n2 c2] 25)).alloc (.cells #[.int .i64 6, .int .u32 a, .int .u32 b] 38)).alloc (.cells #[.slice none 0 0, .slice none 0 0, .slice none 0 0] 25)).alloc (.cells #[.int .i64 0, .int .u32 0] 34)) = W0 at *
  have s3 : w.heap.size + 1 + 1 + 1 < W0.heap.size := K3.out.lt
  have e01 : ¬ w.heap.size = w.heap.size + 1 := by omega
  have e02 : ¬ w.heap.size = w.heap.size + 1 + 1 := by omega
  have e03 : ¬ w.heap.size = w.heap.size + 1 + 1 + 1 := by omega
  have e20 : ¬ w.heap.size + 1 + 1 = w.heap.size := by omega
  have e23 : ¬ w.heap.size + 1 + 1 = w.heap.size + 1 + 1 + 1 := by omega
  have e30 : ¬ w.heap.size + 1 + 1 + 1 = w.heap.size := by omega
  have e32 : ¬ w.heap.size + 1 + 1 + 1 = w.heap.size + 1 + 1 := by omega
  have e10 : ¬ w.heap.size + 1 = w.heap.size := by omega
  have y00 : W0.cell? ⟨w.heap.size, 0, none⟩ = some (.slice A0 n0 c0) := (K0.out.ext (Ext.refl W0)).cell 0
  have z00 : W0.frozen? ⟨w.heap.size, 0, none⟩ = false := (K0.out.ext (Ext.refl W0)).frozen 0
  have y01 : W0.cell? ⟨w.heap.size, 1, none⟩ = some (.slice A1 n1 c1) := (K0.out.ext (Ext.refl W0)).cell 1
  have z01 : W0.frozen? ⟨w.heap.size, 1, none⟩ = false := (K0.out.ext (Ext.refl W0)).frozen 1
  have y02 : W0.cell? ⟨w.heap.size, 2, none⟩ = some (.slice A2 n2 c2) := (K0.out.ext (Ext.refl W0)).cell 2
  have z02 : W0.frozen? ⟨w.heap.size, 2, none⟩ = false := (K0.out.ext (Ext.refl W0)).frozen 2
  have y10 : W0.cell? ⟨w.heap.size + 1, 0, none⟩ = some (.int .i64 6) := (K1.out.ext (Ext.refl W0)).cell 0
  have y11 : W0.cell? ⟨w.heap.size + 1, 1, none⟩ = some (.int .u32 a) := (K1.out.ext (Ext.refl W0)).cell 1
  have y12 : W0.cell? ⟨w.heap.size + 1, 2, none⟩ = some (.int .u32 b) := (K1.out.ext (Ext.refl W0)).cell 2
  have y20 : W0.cell? ⟨w.heap.size + 1 + 1, 0, none⟩ = some (.slice none 0 0) := (K2.out.ext (Ext.refl W0)).cell 0
  have z20 : W0.frozen? ⟨w.heap.size + 1 + 1, 0, none⟩ = false := (K2.out.ext (Ext.refl W0)).frozen 0
  have y21 : W0.cell? ⟨w.heap.size + 1 + 1, 1, none⟩ = some (.slice none 0 0) := (K2.out.ext (Ext.refl W0)).cell 1
  have z21 : W0.frozen? ⟨w.heap.size + 1 + 1, 1, none⟩ = false := (K2.out.ext (Ext.refl W0)).frozen 1
  have y22 : W0.cell? ⟨w.heap.size + 1 + 1, 2, none⟩ = some (.slice none 0 0) := (K2.out.ext (Ext.refl W0)).cell 2
  have z22 : W0.frozen? ⟨w.heap.size + 1 + 1, 2, none⟩ = false := (K2.out.ext (Ext.refl W0)).frozen 2
  have y30 : W0.cell? ⟨w.heap.size + 1 + 1 + 1, 0, none⟩ = some (.int .i64 0) := (K3.out.ext (Ext.refl W0)).cell 0
  have z30 : W0.frozen? ⟨w.heap.size + 1 + 1 + 1, 0, none⟩ = false := (K3.out.ext (Ext.refl W0)).frozen 0
  have y31 : W0.cell? ⟨w.heap.size + 1 + 1 + 1, 1, none⟩ = some (.int .u32 0) := (K3.out.ext (Ext.refl W0)).cell 1
  have z31 : W0.frozen? ⟨w.heap.size + 1 + 1 + 1, 1, none⟩ = false := (K3.out.ext (Ext.refl W0)).frozen 1
  go_wp2_with fail
  go_loopw [9, 10] (fun h i wr => h = .bool false ∧ i = .int .i64 0 ∧ W0 = wr) (fun _ _ _ => 0)
  case atStart => exact ⟨rfl, rfl, rfl⟩
  case round =>
  obtain ⟨rfl, rfl, rfl⟩ := hrel
  go_wp2_with fail
  clear y00 y01 y02 y10 y11 y12 y20 y21 y22 y30 y31 z00 z01 z02 z20 z21 z22 z30 z31
  go_loopw [9, 11, 12] (fun h v i wr => ∃ k : Nat, k ≤ n2 ∧ i = .int .i64 k ∧ h = .bool (hasP (st.m.take k) a) ∧ v = .int .u32 (findP (st.m.take k) a).2 ∧ Ext W0 wr) (fun _ _ i _ => n2 - (intOf i).toNat)
  case atStart => exact ⟨0, Nat.zero_le _, rfl, rfl, rfl, Ext.refl _⟩
  case round =>
    obtain ⟨k, hk, rfl, rfl, rfl, xk⟩ := hrel
    have XK := Lib.hid xk
    clear xk
    have y02 : wr.cell? ⟨w.heap.size, 2, none⟩ = some (.slice A2 n2 c2) := (K0.out.ext XK.out).cell 2
    have y10 : wr.cell? ⟨w.heap.size + 1, 0, none⟩ = some (.int .i64 6) := (K1.out.ext XK.out).cell 0
    have y11 : wr.cell? ⟨w.heap.size + 1, 1, none⟩ = some (.int .u32 a) := (K1.out.ext XK.out).cell 1
    by_cases hlt : k < n2
    · have v1 : decide (k < n2) = true := by simp; omega
      have hll := HLL.out.m
      obtain ⟨ad, hA, hbl, hc⟩ := (HS.out.m.ext (X0.out.trans XK.out)) (by omega)
      obtain ⟨q0, q1⟩ := hc k (by omega)
      have HT := Lib.hid (pair_step st.m a k (by omega) UP.out)
      generalize st.m.getD k (0, 0) = x at *
      obtain ⟨xk, xv⟩ := x
      simp only at q0 q1
      clear hc hll
      subst hA
      generalize hasP (st.m.take k) a = hb at *
      generalize (findP (st.m.take k) a).2 = fv at *
      by_cases he : xk = a
      · have t1 : (xk == a) = true := by rw [he]; exact beq_self_eq_true a
        have HH1 : Hid (hasP (st.m.take (k + 1)) a = true) := Lib.hid (by rw [HT.out.1]; simp [he])
        have HH2 : Hid ((findP (st.m.take (k + 1)) a).2 = xv) := Lib.hid (HT.out.2.1 he)
        clear he
        go_wp2_with fail
        go_quiet (fail)
        go_wp2_with fail
        go_roundw
        case rel => exact ⟨k + 1, by omega, by go_num, by rw [HH1.out], by rw [HH2.out], XK.out.trans (extN _ _)⟩
        case measure => simp [intOf]; omega
      · have t1 : (xk == a) = false := by rw [beq_eq_false_iff_ne]; exact he
        have HH1 : Hid (hasP (st.m.take (k + 1)) a = hb) := Lib.hid (by rw [HT.out.1]; simp [he])
        have HH2 : Hid ((findP (st.m.take (k + 1)) a).2 = fv) := Lib.hid (HT.out.2.2 he)
        clear he
        go_wp2_with fail
        go_quiet (fail)
        go_wp2_with fail
        go_roundw
        case rel => exact ⟨k + 1, by omega, by go_num, by rw [HH1.out], by rw [HH2.out], XK.out.trans (extN _ _)⟩
        case measure => simp [intOf]; omega
    · have v1 : decide (k < n2) = false := by simp; omega
      obtain rfl : n2 = k := by omega
      rw [show st.m.take n2 = st.m from List.take_of_length_le (by rw [HLL.out.m]; exact Nat.le_refl _), HH.out, HF.out]
      generalize wr = w4 at *
      have X4 := Lib.hid XK.out
      have hs4 : w.heap.size + 1 + 1 + 1 < w4.heap.size := Nat.lt_of_lt_of_le s3 X4.out.size
      clear y02 y10 y11 XK
      have y00 : w4.cell? ⟨w.heap.size, 0, none⟩ = some (.slice A0 n0 c0) := (K0.out.ext X4.out).cell 0
      have z00 : w4.frozen? ⟨w.heap.size, 0, none⟩ = false := (K0.out.ext X4.out).frozen 0
      have y01 : w4.cell? ⟨w.heap.size, 1, none⟩ = some (.slice A1 n1 c1) := (K0.out.ext X4.out).cell 1
      have z01 : w4.frozen? ⟨w.heap.size, 1, none⟩ = false := (K0.out.ext X4.out).frozen 1
      have y02 : w4.cell? ⟨w.heap.size, 2, none⟩ = some (.slice A2 n2 c2) := (K0.out.ext X4.out).cell 2
      have z02 : w4.frozen? ⟨w.heap.size, 2, none⟩ = false := (K0.out.ext X4.out).frozen 2
      have y10 : w4.cell? ⟨w.heap.size + 1, 0, none⟩ = some (.int .i64 6) := (K1.out.ext X4.out).cell 0
      have y11 : w4.cell? ⟨w.heap.size + 1, 1, none⟩ = some (.int .u32 a) := (K1.out.ext X4.out).cell 1
      have y12 : w4.cell? ⟨w.heap.size + 1, 2, none⟩ = some (.int .u32 b) := (K1.out.ext X4.out).cell 2
      have y20 : w4.cell? ⟨w.heap.size + 1 + 1, 0, none⟩ = some (.slice none 0 0) := (K2.out.ext X4.out).cell 0
      have z20 : w4.frozen? ⟨w.heap.size + 1 + 1, 0, none⟩ = false := (K2.out.ext X4.out).frozen 0
      have y21 : w4.cell? ⟨w.heap.size + 1 + 1, 1, none⟩ = some (.slice none 0 0) := (K2.out.ext X4.out).cell 1
      have z21 : w4.frozen? ⟨w.heap.size + 1 + 1, 1, none⟩ = false := (K2.out.ext X4.out).frozen 1
      have y22 : w4.cell? ⟨w.heap.size + 1 + 1, 2, none⟩ = some (.slice none 0 0) := (K2.out.ext X4.out).cell 2
      have z22 : w4.frozen? ⟨w.heap.size + 1 + 1, 2, none⟩ = false := (K2.out.ext X4.out).frozen 2
      have y30 : w4.cell? ⟨w.heap.size + 1 + 1 + 1, 0, none⟩ = some (.int .i64 0) := (K3.out.ext X4.out).cell 0
      have z30 : w4.frozen? ⟨w.heap.size + 1 + 1 + 1, 0, none⟩ = false := (K3.out.ext X4.out).frozen 0
      have y31 : w4.cell? ⟨w.heap.size + 1 + 1 + 1, 1, none⟩ = some (.int .u32 0) := (K3.out.ext X4.out).cell 1
      have z31 : w4.frozen? ⟨w.heap.size + 1 + 1 + 1, 1, none⟩ = false := (K3.out.ext X4.out).frozen 1
      go_wp2_with fail
      refine (pairs_ok w4 A2 n2 c2 st.m a b true HLL.out.m (by omega) (HS.out.m.ext (X0.out.trans X4.out))).mono ?_
      rintro e w5 ⟨v', rfl, h1, x5'⟩
      rw [pairsR_put st.m (a, b) HH.out] at h1
      obtain ⟨A', c', hv', -, -, -⟩ := PRow.form h1
      obtain ⟨L, hL⟩ : ∃ L, (insP st.m (posP st.m a) (a, b)).length = L := ⟨_, rfl⟩
      rw [hL] at hv'
      subst hv'
      have HLn := Lib.hid hL
      clear hL
      have H1 : Hid (PRow w5 w4.heap.size (.slice A' L c') (insP st.m (posP st.m a) (a, b))) := Lib.hid h1
      have X5 := Lib.hid (X4.out.trans x5')
      clear h1 x5' y00 y01 y02 y10 y11 y12 y20 y21 y22 y30 y31 z00 z01 z02 z20 z21 z22 z30 z31
      have y00 : w5.cell? ⟨w.heap.size, 0, none⟩ = some (.slice A0 n0 c0) := (K0.out.ext X5.out).cell 0
      have z00 : w5.frozen? ⟨w.heap.size, 0, none⟩ = false := (K0.out.ext X5.out).frozen 0
      have y01 : w5.cell? ⟨w.heap.size, 1, none⟩ = some (.slice A1 n1 c1) := (K0.out.ext X5.out).cell 1
      have z01 : w5.frozen? ⟨w.heap.size, 1, none⟩ = false := (K0.out.ext X5.out).frozen 1
      have y02 : w5.cell? ⟨w.heap.size, 2, none⟩ = some (.slice A2 n2 c2) := (K0.out.ext X5.out).cell 2
      have z02 : w5.frozen? ⟨w.heap.size, 2, none⟩ = false := (K0.out.ext X5.out).frozen 2
      have y10 : w5.cell? ⟨w.heap.size + 1, 0, none⟩ = some (.int .i64 6) := (K1.out.ext X5.out).cell 0
      have y11 : w5.cell? ⟨w.heap.size + 1, 1, none⟩ = some (.int .u32 a) := (K1.out.ext X5.out).cell 1
      have y12 : w5.cell? ⟨w.heap.size + 1, 2, none⟩ = some (.int .u32 b) := (K1.out.ext X5.out).cell 2
      have y20 : w5.cell? ⟨w.heap.size + 1 + 1, 0, none⟩ = some (.slice none 0 0) := (K2.out.ext X5.out).cell 0
      have z20 : w5.frozen? ⟨w.heap.size + 1 + 1, 0, none⟩ = false := (K2.out.ext X5.out).frozen 0
      have y21 : w5.cell? ⟨w.heap.size + 1 + 1, 1, none⟩ = some (.slice none 0 0) := (K2.out.ext X5.out).cell 1
      have z21 : w5.frozen? ⟨w.heap.size + 1 + 1, 1, none⟩ = false := (K2.out.ext X5.out).frozen 1
      have y22 : w5.cell? ⟨w.heap.size + 1 + 1, 2, none⟩ = some (.slice none 0 0) := (K2.out.ext X5.out).cell 2
      have z22 : w5.frozen? ⟨w.heap.size + 1 + 1, 2, none⟩ = false := (K2.out.ext X5.out).frozen 2
      have y30 : w5.cell? ⟨w.heap.size + 1 + 1 + 1, 0, none⟩ = some (.int .i64 0) := (K3.out.ext X5.out).cell 0
      have z30 : w5.frozen? ⟨w.heap.size + 1 + 1 + 1, 0, none⟩ = false := (K3.out.ext X5.out).frozen 0
      have y31 : w5.cell? ⟨w.heap.size + 1 + 1 + 1, 1, none⟩ = some (.int .u32 0) := (K3.out.ext X5.out).cell 1
      have z31 : w5.frozen? ⟨w.heap.size + 1 + 1 + 1, 1, none⟩ = false := (K3.out.ext X5.out).frozen 1
      go_wp2_with fail
      have W0L := K2.out.ext X5.out
      have W0M := K3.out.ext X5.out
      have hfin : Fr (fun q => q = w.heap.size ∨ q = w.heap.size + 1 + 1 ∨ q = w.heap.size + 1 + 1 + 1) w5 ((((((w5.setCell ⟨w.heap.size, 2, none⟩ (.slice A' L c')).setCell ⟨w.heap.size + 1 + 1, 0, none⟩ (.slice A0 n0 c0)).setCell ⟨w.heap.size + 1 + 1, 1, none⟩ (.slice A1 n1 c1)).setCell ⟨w.heap.size + 1 + 1, 2, none⟩ (.slice A' L c')).setCell ⟨w.heap.size + 1 + 1 + 1, 0, none⟩ (.int .i64 1)).setCell ⟨w.heap.size + 1 + 1 + 1, 1, none⟩ (.int .u32 0)) ∧ (((((((w5.setCell ⟨w.heap.size, 2, none⟩ (.slice A' L c')).setCell ⟨w.heap.size + 1 + 1, 0, none⟩ (.slice A0 n0 c0)).setCell ⟨w.heap.size + 1 + 1, 1, none⟩ (.slice A1 n1 c1)).setCell ⟨w.heap.size + 1 + 1, 2, none⟩ (.slice A' L c')).setCell ⟨w.heap.size + 1 + 1 + 1, 0, none⟩ (.int .i64 1)).setCell ⟨w.heap.size + 1 + 1 + 1, 1, none⟩ (.int .u32 0)).cell? ⟨w.heap.size + 1 + 1, 0, none⟩ = some (.slice A0 n0 c0) ∧ ((((((w5.setCell ⟨w.heap.size, 2, none⟩ (.slice A' L c')).setCell ⟨w.heap.size + 1 + 1, 0, none⟩ (.slice A0 n0 c0)).setCell ⟨w.heap.size + 1 + 1, 1, none⟩ (.slice A1 n1 c1)).setCell ⟨w.heap.size + 1 + 1, 2, none⟩ (.slice A' L c')).setCell ⟨w.heap.size + 1 + 1 + 1, 0, none⟩ (.int .i64 1)).setCell ⟨w.heap.size + 1 + 1 + 1, 1, none⟩ (.int .u32 0)).cell? ⟨w.heap.size + 1 + 1, 1, none⟩ = some (.slice A1 n1 c1) ∧ ((((((w5.setCell ⟨w.heap.size, 2, none⟩ (.slice A' L c')).setCell ⟨w.heap.size + 1 + 1, 0, none⟩ (.slice A0 n0 c0)).setCell ⟨w.heap.size + 1 + 1, 1, none⟩ (.slice A1 n1 c1)).setCell ⟨w.heap.size + 1 + 1, 2, none⟩ (.slice A' L c')).setCell ⟨w.heap.size + 1 + 1 + 1, 0, none⟩ (.int .i64 1)).setCell ⟨w.heap.size + 1 + 1 + 1, 1, none⟩ (.int .u32 0)).cell? ⟨w.heap.size + 1 + 1, 2, none⟩ = some (.slice A' L c') ∧ ((((((w5.setCell ⟨w.heap.size, 2, none⟩ (.slice A' L c')).setCell ⟨w.heap.size + 1 + 1, 0, none⟩ (.slice A0 n0 c0)).setCell ⟨w.heap.size + 1 + 1, 1, none⟩ (.slice A1 n1 c1)).setCell ⟨w.heap.size + 1 + 1, 2, none⟩ (.slice A' L c')).setCell ⟨w.heap.size + 1 + 1 + 1, 0, none⟩ (.int .i64 1)).setCell ⟨w.heap.size + 1 + 1 + 1, 1, none⟩ (.int .u32 0)).cell? ⟨w.heap.size + 1 + 1 + 1, 0, none⟩ = some (.int .i64 1) ∧ ((((((w5.setCell ⟨w.heap.size, 2, none⟩ (.slice A' L c')).setCell ⟨w.heap.size + 1 + 1, 0, none⟩ (.slice A0 n0 c0)).setCell ⟨w.heap.size + 1 + 1, 1, none⟩ (.slice A1 n1 c1)).setCell ⟨w.heap.size + 1 + 1, 2, none⟩ (.slice A' L c')).setCell ⟨w.heap.size + 1 + 1 + 1, 0, none⟩ (.int .i64 1)).setCell ⟨w.heap.size + 1 + 1 + 1, 1, none⟩ (.int .u32 0)).cell? ⟨w.heap.size + 1 + 1 + 1, 1, none⟩ = some (.int .u32 0)) := fin_ret w5 w.heap.size (some (2, .slice A' L c')) (.slice A0 n0 c0) (.slice A1 n1 c1) (.slice A' L c') 1 0 W0L W0M
      have fz := hfin.1
      have hcs := hfin.2
      clear hfin W0L W0M
      have X7 := fz.ext (X0.out.trans X5.out) (fun q e => by rcases e with e | e | e <;> omega)
      have S7 : StF w ((((((w5.setCell ⟨w.heap.size, 2, none⟩ (.slice A' L c')).setCell ⟨w.heap.size + 1 + 1, 0, none⟩ (.slice A0 n0 c0)).setCell ⟨w.heap.size + 1 + 1, 1, none⟩ (.slice A1 n1 c1)).setCell ⟨w.heap.size + 1 + 1, 2, none⟩ (.slice A' L c')).setCell ⟨w.heap.size + 1 + 1 + 1, 0, none⟩ (.int .i64 1)).setCell ⟨w.heap.size + 1 + 1 + 1, 1, none⟩ (.int .u32 0)) A0 A1 A2 n0 n1 n2 A0 A1 A' ⟨st.q, st.s, insP st.m (posP st.m a) (a, b)⟩ := fun W8 f8 => by
        have fz8 : Fr (fun q => (q = w.heap.size ∨ q = w.heap.size + 1 + 1 ∨ q = w.heap.size + 1 + 1 + 1) ∨ OldB w A0 A1 A2 n0 n1 n2 q) w5 W8 := (fz.mono (fun _ _ h => Or.inl h)).trans f8 (fun _ _ h => Or.inr h)
        exact ⟨ints_frN (HS.out.q.ext X7) f8 (fun h0 ad e hs => hs.2.1 (by rw [← HLL.out.q]; exact h0) ad e rfl), ints_frN (HS.out.s.ext X7) f8 (fun h0 ad e hs => hs.2.2.1 (by rw [← HLL.out.s]; exact h0) ad e rfl), row_pairs (H1.out.fr fz8 (fun q hq e => by have := (World.ownsRow.lt H1.out q hq).1; rcases e with (e | e | e) | e <;> first | omega | (have := e.1; omega)))⟩
      clear y00 y01 y02 y10 y11 y12 y20 y21 y22 y30 y31 z00 z01 z02 z20 z21 z22 z30 z31
      generalize ((((((w5.setCell ⟨w.heap.size, 2, none⟩ (.slice A' L c')).setCell ⟨w.heap.size + 1 + 1, 0, none⟩ (.slice A0 n0 c0)).setCell ⟨w.heap.size + 1 + 1, 1, none⟩ (.slice A1 n1 c1)).setCell ⟨w.heap.size + 1 + 1, 2, none⟩ (.slice A' L c')).setCell ⟨w.heap.size + 1 + 1 + 1, 0, none⟩ (.int .i64 1)).setCell ⟨w.heap.size + 1 + 1 + 1, 1, none⟩ (.int .u32 0)) = W7 at *
      obtain ⟨q0, q1, q2, q3, q4⟩ := hcs
      exact bodyPost_ret (v := .tuple #[.agg #[.slice A0 n0 c0, .slice A1 n1 c1, .slice A' L c'], .agg #[.int .i64 1, .int .u32 0]]) (by simp [results, Try.results10, go_sem, q0, q1, q2, q3, q4]) rfl ⟨A0, A1, A', _, _, _, by show _ = Ending.returned (.tuple #[.agg #[.slice A0 st.q.length c0, .slice A1 st.s.length c1, .slice A' (insP st.m (posP st.m a) (a, b)).length c'], _]); rw [HLn.out, HLL.out.q, HLL.out.s], ⟨by rw [HLL.out.q]; exact HCP.out.1, HCP.out.2⟩, S7, ⟨fun h0 ad e => Or.inl ⟨(by have h9 : 0 < st.q.length := h0; have := HLL.out.q; omega), ad, e, rfl⟩, fun h0 ad e => Or.inl ⟨(by have h9 : 0 < st.s.length := h0; have := HLL.out.s; omega), ad, e, rfl⟩, fun h0 ad e => Or.inr (by have := (World.ownsRow.lt H1.out ad.block (own_some e)).1; omega)⟩, X7⟩
end Go.Proofs.Ythbngenjcgclgaa
