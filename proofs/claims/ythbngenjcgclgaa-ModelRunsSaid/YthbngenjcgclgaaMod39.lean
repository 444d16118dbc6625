/- Layer 8: the document's Apply, of the queue. Conditions: those that each theorem names. -/
import Derived.Test.YthbngenjcgclgaaMod38
namespace Go.Proofs.Ythbngenjcgclgaa
open Go.ChangeShapes Go.WideShapes Go.ChangeAt Go.RowKit
set_option linter.unusedVariables false
theorem row_ints {w : World} {B n c : Nat} {A : Option Addr} {zs : List Int} (h : IRow w B (.slice A n c) zs) : Ints w .u32 A zs := by
  obtain ⟨A', c', e, _, _, hI⟩ := h.form
  injection e with e1
  subst e1
  exact hI
theorem row_pairs {w : World} {B n c : Nat} {A : Option Addr} {ps : List Pr} (h : PRow w B (.slice A n c) ps) : PAt w A ps := by
  obtain ⟨A', c', e, _, _, hI⟩ := PRow.form h
  injection e with e1
  subst e1
  exact hI
set_option maxRecDepth 100000 in
set_option maxHeartbeats 4000000 in
theorem rApp1 (w : World) (A0 A1 A2 : Option Addr) (n0 n1 n2 c0 c1 c2 : Nat) (st : Sta) (a b : Int) (h : StAt w A0 A1 A2 st) (hl : Lens st n0 n1 n2) (m0 : n0 ≤ 1000) (m1 : n1 ≤ 1000) (m2 : n2 ≤ 1000) (hcap : n0 ≤ c0 ∧ c0 ≤ 9223372036854775807)  :
    Calls Try.prog 10 #[.agg #[.slice A0 n0 c0, .slice A1 n1 c1, .slice A2 n2 c2], .agg #[.int .i64 1, .int .u32 a, .int .u32 b]] w (RPost w A0 A1 A2 n0 n1 n2 (doS st 1 a b).1 (doS st 1 a b).2) := by
  have e0 : doS st 1 a b = (⟨st.q ++ [b], st.s, st.m⟩, (1, 0)) := rfl
  rw [e0]
  clear e0
  have HS := Lib.hid h
  have HLL := Lib.hid hl
  have HCP := Lib.hid hcap
  obtain ⟨k0, k1, k2, k3⟩ := four_new w (.slice A0 n0 c0) (.slice A1 n1 c1) (.slice A2 n2 c2) 1 a b
  have K0 := Lib.hid k0
  have K1 := Lib.hid k1
  have K2 := Lib.hid k2
  have K3 := Lib.hid k3
  have X0 := Lib.hid (((((Ext.refl w).alloc (.cells #[.slice A0 n0 c0, .slice A1 n1 c1, .slice A2 n2 c2] 25)).alloc (.cells #[.int .i64 1, .int .u32 a, .int .u32 b] 38)).alloc (.cells #[.slice none 0 0, .slice none 0 0, .slice none 0 0] 25)).alloc (.cells #[.int .i64 0, .int .u32 0] 34))
  clear h hl k0 k1 k2 k3 hcap
  go_enter Try.func10, Try.ntmps10
  go_upto_region 1 with fail
  generalize ((((w.alloc (.cells #[.slice A0 n0 c0, .slice A1 n1 c1, .slice A2 n2 c2] 25)).alloc (.cells #[.int .i64 1, .int .u32 a, .int .u32 b] 38)).alloc (.cells #[.slice none 0 0, .slice none 0 0, .slice none 0 0] 25)).alloc (.cells #[.int .i64 0, .int .u32 0] 34)) = W0 at *
  have s3 : w.heap.size + 1 + 1 + 1 < W0.heap.size := K3.out.lt
  have e01 : ¬ w.heap.size = w.heap.size + 1 := by omega
  have e02 : ¬ w.heap.size = w.heap.size + 1 + 1 := by omega
  have e03 : ¬ w.heap.size = w.heap.size + 1 + 1 + 1 := by omega
  have e20 : ¬ w.heap.size + 1 + 1 = w.heap.size := by omega
  have e23 : ¬ w.heap.size + 1 + 1 = w.heap.size + 1 + 1 + 1 := by omega
  have e30 : ¬ w.heap.size + 1 + 1 + 1 = w.heap.size := by omega
  have e32 : ¬ w.heap.size + 1 + 1 + 1 = w.heap.size + 1 + 1 := by omega
  have e10 : ¬ w.heap.size + 1 = w.heap.size := by omega
  have y00 : W0.cell? ⟨w.heap.size, 0, none⟩ = some (.slice A0 n0 c0) := (K0.out.ext (Ext.refl W0)).cell 0
  have z00 : W0.frozen? ⟨w.heap.size, 0, none⟩ = false := (K0.out.ext (Ext.refl W0)).frozen 0
  have y01 : W0.cell? ⟨w.heap.size, 1, none⟩ = some (.slice A1 n1 c1) := (K0.out.ext (Ext.refl W0)).cell 1
  have z01 : W0.frozen? ⟨w.heap.size, 1, none⟩ = false := (K0.out.ext (Ext.refl W0)).frozen 1
  have y02 : W0.cell? ⟨w.heap.size, 2, none⟩ = some (.slice A2 n2 c2) := (K0.out.ext (Ext.refl W0)).cell 2
  have z02 : W0.frozen? ⟨w.heap.size, 2, none⟩ = false := (K0.out.ext (Ext.refl W0)).frozen 2
  have y10 : W0.cell? ⟨w.heap.size + 1, 0, none⟩ = some (.int .i64 1) := (K1.out.ext (Ext.refl W0)).cell 0
  have y11 : W0.cell? ⟨w.heap.size + 1, 1, none⟩ = some (.int .u32 a) := (K1.out.ext (Ext.refl W0)).cell 1
  have y12 : W0.cell? ⟨w.heap.size + 1, 2, none⟩ = some (.int .u32 b) := (K1.out.ext (Ext.refl W0)).cell 2
  have y20 : W0.cell? ⟨w.heap.size + 1 + 1, 0, none⟩ = some (.slice none 0 0) := (K2.out.ext (Ext.refl W0)).cell 0
  have z20 : W0.frozen? ⟨w.heap.size + 1 + 1, 0, none⟩ = false := (K2.out.ext (Ext.refl W0)).frozen 0
  have y21 : W0.cell? ⟨w.heap.size + 1 + 1, 1, none⟩ = some (.slice none 0 0) := (K2.out.ext (Ext.refl W0)).cell 1
  have z21 : W0.frozen? ⟨w.heap.size + 1 + 1, 1, none⟩ = false := (K2.out.ext (Ext.refl W0)).frozen 1
  have y22 : W0.cell? ⟨w.heap.size + 1 + 1, 2, none⟩ = some (.slice none 0 0) := (K2.out.ext (Ext.refl W0)).cell 2
  have z22 : W0.frozen? ⟨w.heap.size + 1 + 1, 2, none⟩ = false := (K2.out.ext (Ext.refl W0)).frozen 2
  have y30 : W0.cell? ⟨w.heap.size + 1 + 1 + 1, 0, none⟩ = some (.int .i64 0) := (K3.out.ext (Ext.refl W0)).cell 0
  have z30 : W0.frozen? ⟨w.heap.size + 1 + 1 + 1, 0, none⟩ = false := (K3.out.ext (Ext.refl W0)).frozen 0
  have y31 : W0.cell? ⟨w.heap.size + 1 + 1 + 1, 1, none⟩ = some (.int .u32 0) := (K3.out.ext (Ext.refl W0)).cell 1
  have z31 : W0.frozen? ⟨w.heap.size + 1 + 1 + 1, 1, none⟩ = false := (K3.out.ext (Ext.refl W0)).frozen 1
  go_wp2_with fail
  clear y00 y01 y02 y10 y11 y12 y20 y21 y22 y30 y31 z00 z01 z02 z20 z21 z22 z30 z31
  go_loopw [6, 7] (fun v i wr => ∃ (k : Nat) (vv : Value), k ≤ n0 ∧ i = .int .i64 k ∧ vv = v ∧ Row wr W0.heap.size 32 .u32 vv (st.q.take k) ∧ Ext W0 wr) (fun _ i _ => n0 - (intOf i).toNat)
  case atStart => exact ⟨0, _, Nat.zero_le _, rfl, rfl, Row.nil _ _ _ _, Ext.refl _⟩
  case round =>
    obtain ⟨k, vv, hk, rfl, rfl, row, xk⟩ := hrel
    have RO := Lib.hid row
    have XK := Lib.hid xk
    clear row xk
    by_cases hlt : k < n0
    · have v1 : decide (k < n0) = true := by simp; omega
      have y00 : wr.cell? ⟨w.heap.size, 0, none⟩ = some (.slice A0 n0 c0) := (K0.out.ext XK.out).cell 0
      have hll := HLL.out.q
      obtain ⟨ad, hA, hbl, hc⟩ := (HS.out.q.ext (X0.out.trans XK.out)) (by omega)
      have q0 := hc k (by omega)
      have HT : Hid (st.q.take k ++ [st.q.getD k 0] = st.q.take (k + 1)) := Lib.hid (take_oneI st.q k (by omega)).symm
      have HLEN : Hid ((st.q.take k).length < 1000000000) := Lib.hid (by rw [List.length_take]; omega)
      generalize st.q.getD k 0 = x at *
      clear hc hll
      subst hA
      go_wp2_with ((at_builtin; refine Hid.out ?_))
      refine Lib.hid ?_
      refine wpList_push rfl _ _ 22 rfl 32 .u32 4 u32_info (by decide) Try.underlying22 W0 wr vv (st.q.take k) x (by rfl) RO.out XK.out (by rfl) HLEN.out ?_
      intro v' w' h1 h2
      rw [HT.out] at h1
      go_wp2_with fail
      go_roundw
      case rel => exact ⟨k + 1, v', by omega, by go_num, rfl, h1, h2⟩
      case measure => simp [intOf]; omega
    · have v1 : decide (k < n0) = false := by simp; omega
      obtain rfl : n0 = k := by omega
      have HQ : Hid (st.q.take n0 = st.q) := Lib.hid (List.take_of_length_le (by rw [HLL.out.q]; exact Nat.le_refl _))
      have HLEN : Hid (st.q.length < 1000000000) := Lib.hid (by rw [HLL.out.q]; omega)
      rw [HQ.out] at RO
      have y00 : wr.cell? ⟨w.heap.size, 0, none⟩ = some (.slice A0 n0 c0) := (K0.out.ext XK.out).cell 0
      have y12 : wr.cell? ⟨w.heap.size + 1, 2, none⟩ = some (.int .u32 b) := (K1.out.ext XK.out).cell 2
      go_wp2_with ((at_builtin; refine Hid.out ?_))
      refine Lib.hid ?_
      refine wpList_push rfl _ _ 22 rfl 32 .u32 4 u32_info (by decide) Try.underlying22 W0 wr vv st.q b (by rfl) RO.out XK.out (by rfl) HLEN.out ?_
      intro v' w5 h1 x5
      obtain ⟨A', c', hv', hle, hmx, -⟩ := IRow.form h1
      obtain ⟨L, hL⟩ : ∃ L, (st.q ++ [b]).length = L := ⟨_, rfl⟩
      rw [hL] at hv' hle
      have HCN := Lib.hid (And.intro hle hmx)
      subst hv'
      have HLn := Lib.hid hL
      clear hL
      have H1 : Hid (IRow w5 W0.heap.size (.slice A' L c') (st.q ++ [b])) := Lib.hid h1
      have X5 := Lib.hid x5
      clear h1 x5 y00 y12 hle hmx
      have y00 : w5.cell? ⟨w.heap.size, 0, none⟩ = some (.slice A0 n0 c0) := (K0.out.ext X5.out).cell 0
      have z00 : w5.frozen? ⟨w.heap.size, 0, none⟩ = false := (K0.out.ext X5.out).frozen 0
      have y01 : w5.cell? ⟨w.heap.size, 1, none⟩ = some (.slice A1 n1 c1) := (K0.out.ext X5.out).cell 1
      have z01 : w5.frozen? ⟨w.heap.size, 1, none⟩ = false := (K0.out.ext X5.out).frozen 1
      have y02 : w5.cell? ⟨w.heap.size, 2, none⟩ = some (.slice A2 n2 c2) := (K0.out.ext X5.out).cell 2
      have z02 : w5.frozen? ⟨w.heap.size, 2, none⟩ = false := (K0.out.ext X5.out).frozen 2
      have y10 : w5.cell? ⟨w.heap.size + 1, 0, none⟩ = some (.int .i64 1) := (K1.out.ext X5.out).cell 0
      have y11 : w5.cell? ⟨w.heap.size + 1, 1, none⟩ = some (.int .u32 a) := (K1.out.ext X5.out).cell 1
      have y12 : w5.cell? ⟨w.heap.size + 1, 2, none⟩ = some (.int .u32 b) := (K1.out.ext X5.out).cell 2
      have y20 : w5.cell? ⟨w.heap.size + 1 + 1, 0, none⟩ = some (.slice none 0 0) := (K2.out.ext X5.out).cell 0
      have z20 : w5.frozen? ⟨w.heap.size + 1 + 1, 0, none⟩ = false := (K2.out.ext X5.out).frozen 0
      have y21 : w5.cell? ⟨w.heap.size + 1 + 1, 1, none⟩ = some (.slice none 0 0) := (K2.out.ext X5.out).cell 1
      have z21 : w5.frozen? ⟨w.heap.size + 1 + 1, 1, none⟩ = false := (K2.out.ext X5.out).frozen 1
      have y22 : w5.cell? ⟨w.heap.size + 1 + 1, 2, none⟩ = some (.slice none 0 0) := (K2.out.ext X5.out).cell 2
      have z22 : w5.frozen? ⟨w.heap.size + 1 + 1, 2, none⟩ = false := (K2.out.ext X5.out).frozen 2
      have y30 : w5.cell? ⟨w.heap.size + 1 + 1 + 1, 0, none⟩ = some (.int .i64 0) := (K3.out.ext X5.out).cell 0
      have z30 : w5.frozen? ⟨w.heap.size + 1 + 1 + 1, 0, none⟩ = false := (K3.out.ext X5.out).frozen 0
      have y31 : w5.cell? ⟨w.heap.size + 1 + 1 + 1, 1, none⟩ = some (.int .u32 0) := (K3.out.ext X5.out).cell 1
      have z31 : w5.frozen? ⟨w.heap.size + 1 + 1 + 1, 1, none⟩ = false := (K3.out.ext X5.out).frozen 1
      go_wp2_with fail
      have W0L := K2.out.ext X5.out
      have W0M := K3.out.ext X5.out
      have hfin : Fr (fun q => q = w.heap.size ∨ q = w.heap.size + 1 + 1 ∨ q = w.heap.size + 1 + 1 + 1) w5 ((((((w5.setCell ⟨w.heap.size, 0, none⟩ (.slice A' L c')).setCell ⟨w.heap.size + 1 + 1, 0, none⟩ (.slice A' L c')).setCell ⟨w.heap.size + 1 + 1, 1, none⟩ (.slice A1 n1 c1)).setCell ⟨w.heap.size + 1 + 1, 2, none⟩ (.slice A2 n2 c2)).setCell ⟨w.heap.size + 1 + 1 + 1, 0, none⟩ (.int .i64 1)).setCell ⟨w.heap.size + 1 + 1 + 1, 1, none⟩ (.int .u32 0)) ∧ (((((((w5.setCell ⟨w.heap.size, 0, none⟩ (.slice A' L c')).setCell ⟨w.heap.size + 1 + 1, 0, none⟩ (.slice A' L c')).setCell ⟨w.heap.size + 1 + 1, 1, none⟩ (.slice A1 n1 c1)).setCell ⟨w.heap.size + 1 + 1, 2, none⟩ (.slice A2 n2 c2)).setCell ⟨w.heap.size + 1 + 1 + 1, 0, none⟩ (.int .i64 1)).setCell ⟨w.heap.size + 1 + 1 + 1, 1, none⟩ (.int .u32 0)).cell? ⟨w.heap.size + 1 + 1, 0, none⟩ = some (.slice A' L c') ∧ ((((((w5.setCell ⟨w.heap.size, 0, none⟩ (.slice A' L c')).setCell ⟨w.heap.size + 1 + 1, 0, none⟩ (.slice A' L c')).setCell ⟨w.heap.size + 1 + 1, 1, none⟩ (.slice A1 n1 c1)).setCell ⟨w.heap.size + 1 + 1, 2, none⟩ (.slice A2 n2 c2)).setCell ⟨w.heap.size + 1 + 1 + 1, 0, none⟩ (.int .i64 1)).setCell ⟨w.heap.size + 1 + 1 + 1, 1, none⟩ (.int .u32 0)).cell? ⟨w.heap.size + 1 + 1, 1, none⟩ = some (.slice A1 n1 c1) ∧ ((((((w5.setCell ⟨w.heap.size, 0, none⟩ (.slice A' L c')).setCell ⟨w.heap.size + 1 + 1, 0, none⟩ (.slice A' L c')).setCell ⟨w.heap.size + 1 + 1, 1, none⟩ (.slice A1 n1 c1)).setCell ⟨w.heap.size + 1 + 1, 2, none⟩ (.slice A2 n2 c2)).setCell ⟨w.heap.size + 1 + 1 + 1, 0, none⟩ (.int .i64 1)).setCell ⟨w.heap.size + 1 + 1 + 1, 1, none⟩ (.int .u32 0)).cell? ⟨w.heap.size + 1 + 1, 2, none⟩ = some (.slice A2 n2 c2) ∧ ((((((w5.setCell ⟨w.heap.size, 0, none⟩ (.slice A' L c')).setCell ⟨w.heap.size + 1 + 1, 0, none⟩ (.slice A' L c')).setCell ⟨w.heap.size + 1 + 1, 1, none⟩ (.slice A1 n1 c1)).setCell ⟨w.heap.size + 1 + 1, 2, none⟩ (.slice A2 n2 c2)).setCell ⟨w.heap.size + 1 + 1 + 1, 0, none⟩ (.int .i64 1)).setCell ⟨w.heap.size + 1 + 1 + 1, 1, none⟩ (.int .u32 0)).cell? ⟨w.heap.size + 1 + 1 + 1, 0, none⟩ = some (.int .i64 1) ∧ ((((((w5.setCell ⟨w.heap.size, 0, none⟩ (.slice A' L c')).setCell ⟨w.heap.size + 1 + 1, 0, none⟩ (.slice A' L c')).setCell ⟨w.heap.size + 1 + 1, 1, none⟩ (.slice A1 n1 c1)).setCell ⟨w.heap.size + 1 + 1, 2, none⟩ (.slice A2 n2 c2)).setCell ⟨w.heap.size + 1 + 1 + 1, 0, none⟩ (.int .i64 1)).setCell ⟨w.heap.size + 1 + 1 + 1, 1, none⟩ (.int .u32 0)).cell? ⟨w.heap.size + 1 + 1 + 1, 1, none⟩ = some (.int .u32 0)) := fin_ret w5 w.heap.size (some (0, .slice A' L c')) (.slice A' L c') (.slice A1 n1 c1) (.slice A2 n2 c2) 1 0 W0L W0M
      have fz := hfin.1
      have hcs := hfin.2
      clear hfin W0L W0M
      have X7 := fz.ext (X0.out.trans X5.out) (fun q e => by rcases e with e | e | e <;> omega)
      have S7 : StF w ((((((w5.setCell ⟨w.heap.size, 0, none⟩ (.slice A' L c')).setCell ⟨w.heap.size + 1 + 1, 0, none⟩ (.slice A' L c')).setCell ⟨w.heap.size + 1 + 1, 1, none⟩ (.slice A1 n1 c1)).setCell ⟨w.heap.size + 1 + 1, 2, none⟩ (.slice A2 n2 c2)).setCell ⟨w.heap.size + 1 + 1 + 1, 0, none⟩ (.int .i64 1)).setCell ⟨w.heap.size + 1 + 1 + 1, 1, none⟩ (.int .u32 0)) A0 A1 A2 n0 n1 n2 A' A1 A2 ⟨st.q ++ [b], st.s, st.m⟩ := fun W8 f8 => by
        have fz8 : Fr (fun q => (q = w.heap.size ∨ q = w.heap.size + 1 + 1 ∨ q = w.heap.size + 1 + 1 + 1) ∨ OldB w A0 A1 A2 n0 n1 n2 q) w5 W8 := (fz.mono (fun _ _ h => Or.inl h)).trans f8 (fun _ _ h => Or.inr h)
        exact ⟨row_ints (H1.out.fr fz8 (fun q hq e => by have := (World.ownsRow.lt H1.out q hq).1; rcases e with (e | e | e) | e <;> first | omega | (have := e.1; omega))), ints_frN (HS.out.s.ext X7) f8 (fun h0 ad e hs => hs.2.2.1 (by rw [← HLL.out.s]; exact h0) ad e rfl), pat_frN (HS.out.m.ext X7) f8 (fun h0 ad e hs => hs.2.2.2 (by rw [← HLL.out.m]; exact h0) ad e rfl)⟩
      clear y00 y01 y02 y10 y11 y12 y20 y21 y22 y30 y31 z00 z01 z02 z20 z21 z22 z30 z31
      generalize ((((((w5.setCell ⟨w.heap.size, 0, none⟩ (.slice A' L c')).setCell ⟨w.heap.size + 1 + 1, 0, none⟩ (.slice A' L c')).setCell ⟨w.heap.size + 1 + 1, 1, none⟩ (.slice A1 n1 c1)).setCell ⟨w.heap.size + 1 + 1, 2, none⟩ (.slice A2 n2 c2)).setCell ⟨w.heap.size + 1 + 1 + 1, 0, none⟩ (.int .i64 1)).setCell ⟨w.heap.size + 1 + 1 + 1, 1, none⟩ (.int .u32 0)) = W7 at *
      obtain ⟨q0, q1, q2, q3, q4⟩ := hcs
      exact bodyPost_ret (v := .tuple #[.agg #[.slice A' L c', .slice A1 n1 c1, .slice A2 n2 c2], .agg #[.int .i64 1, .int .u32 0]]) (by simp [results, Try.results10, go_sem, q0, q1, q2, q3, q4]) rfl ⟨A', A1, A2, _, _, _, by show _ = Ending.returned (.tuple #[.agg #[.slice A' (st.q ++ [b]).length c', .slice A1 st.s.length c1, .slice A2 st.m.length c2], _]); rw [HLn.out, HLL.out.s, HLL.out.m], ⟨by show (st.q ++ [b]).length ≤ _; rw [HLn.out]; exact HCN.out.1, by have := HCN.out.2; unfold maxLen at this; exact this⟩, S7, ⟨fun h0 ad e => Or.inr (by have := (World.ownsRow.lt H1.out ad.block (own_some e)).1; omega), fun h0 ad e => Or.inl ⟨(by have h9 : 0 < st.s.length := h0; have := HLL.out.s; omega), ad, e, rfl⟩, fun h0 ad e => Or.inl ⟨(by have h9 : 0 < st.m.length := h0; have := HLL.out.m; omega), ad, e, rfl⟩⟩, X7⟩
set_option maxRecDepth 100000 in
set_option maxHeartbeats 4000000 in
theorem rApp2_none (w : World) (A0 A1 A2 : Option Addr) (n0 n1 n2 c0 c1 c2 : Nat) (st : Sta) (a b : Int) (h : StAt w A0 A1 A2 st) (hl : Lens st n0 n1 n2) (m0 : n0 ≤ 1000) (m1 : n1 ≤ 1000) (m2 : n2 ≤ 1000) (hcap : n0 ≤ c0 ∧ c0 ≤ 9223372036854775807) (hn : n0 = 0) :
    Calls Try.prog 10 #[.agg #[.slice A0 n0 c0, .slice A1 n1 c1, .slice A2 n2 c2], .agg #[.int .i64 2, .int .u32 a, .int .u32 b]] w (RPost w A0 A1 A2 n0 n1 n2 (doS st 2 a b).1 (doS st 2 a b).2) := by
  have e0 : doS st 2 a b = (st, (2, 0)) := by
    obtain ⟨q, s, m⟩ := st
    have hq : q = [] := List.length_eq_zero_iff.1 (by have := hl.q; simpa [hn] using this)
    subst hq
    rfl
  rw [e0]
  clear e0
  subst hn
  have HS := Lib.hid h
  have HLL := Lib.hid hl
  have HCP := Lib.hid hcap
  obtain ⟨k0, k1, k2, k3⟩ := four_new w (.slice A0 0 c0) (.slice A1 n1 c1) (.slice A2 n2 c2) 2 a b
  have K0 := Lib.hid k0
  have K1 := Lib.hid k1
  have K2 := Lib.hid k2
  have K3 := Lib.hid k3
  have X0 := Lib.hid (((((Ext.refl w).alloc (.cells #[.slice A0 0 c0, .slice A1 n1 c1, .slice A2 n2 c2] 25)).alloc (.cells #[.int .i64 2, .int .u32 a, .int .u32 b] 38)).alloc (.cells #[.slice none 0 0, .slice none 0 0, .slice none 0 0] 25)).alloc (.cells #[.int .i64 0, .int .u32 0] 34))
  clear h hl k0 k1 k2 k3 hcap
  go_enter Try.func10, Try.ntmps10
  go_upto_region 1 with fail
  generalize ((((w.alloc (.cells #[.slice A0 0 c0, .slice A1 n1 c1, .slice A2 n2 c2] 25)).alloc (.cells #[.int .i64 2, .int .u32 a, .int .u32 b] 38)).alloc (.cells #[.slice none 0 0, .slice none 0 0, .slice none 0 0] 25)).alloc (.cells #[.int .i64 0, .int .u32 0] 34)) = W0 at *
  have s3 : w.heap.size + 1 + 1 + 1 < W0.heap.size := K3.out.lt
  have e01 : ¬ w.heap.size = w.heap.size + 1 := by omega
  have e02 : ¬ w.heap.size = w.heap.size + 1 + 1 := by omega
  have e03 : ¬ w.heap.size = w.heap.size + 1 + 1 + 1 := by omega
  have e20 : ¬ w.heap.size + 1 + 1 = w.heap.size := by omega
  have e23 : ¬ w.heap.size + 1 + 1 = w.heap.size + 1 + 1 + 1 := by omega
  have e30 : ¬ w.heap.size + 1 + 1 + 1 = w.heap.size := by omega
  have e32 : ¬ w.heap.size + 1 + 1 + 1 = w.heap.size + 1 + 1 := by omega
  have e10 : ¬ w.heap.size + 1 = w.heap.size := by omega
  have y00 : W0.cell? ⟨w.heap.size, 0, none⟩ = some (.slice A0 0 c0) := (K0.out.ext (Ext.refl W0)).cell 0
  have z00 : W0.frozen? ⟨w.heap.size, 0, none⟩ = false := (K0.out.ext (Ext.refl W0)).frozen 0
  have y01 : W0.cell? ⟨w.heap.size, 1, none⟩ = some (.slice A1 n1 c1) := (K0.out.ext (Ext.refl W0)).cell 1
  have z01 : W0.frozen? ⟨w.heap.size, 1, none⟩ = false := (K0.out.ext (Ext.refl W0)).frozen 1
  have y02 : W0.cell? ⟨w.heap.size, 2, none⟩ = some (.slice A2 n2 c2) := (K0.out.ext (Ext.refl W0)).cell 2
  have z02 : W0.frozen? ⟨w.heap.size, 2, none⟩ = false := (K0.out.ext (Ext.refl W0)).frozen 2
  have y10 : W0.cell? ⟨w.heap.size + 1, 0, none⟩ = some (.int .i64 2) := (K1.out.ext (Ext.refl W0)).cell 0
  have y11 : W0.cell? ⟨w.heap.size + 1, 1, none⟩ = some (.int .u32 a) := (K1.out.ext (Ext.refl W0)).cell 1
  have y12 : W0.cell? ⟨w.heap.size + 1, 2, none⟩ = some (.int .u32 b) := (K1.out.ext (Ext.refl W0)).cell 2
  have y20 : W0.cell? ⟨w.heap.size + 1 + 1, 0, none⟩ = some (.slice none 0 0) := (K2.out.ext (Ext.refl W0)).cell 0
  have z20 : W0.frozen? ⟨w.heap.size + 1 + 1, 0, none⟩ = false := (K2.out.ext (Ext.refl W0)).frozen 0
  have y21 : W0.cell? ⟨w.heap.size + 1 + 1, 1, none⟩ = some (.slice none 0 0) := (K2.out.ext (Ext.refl W0)).cell 1
  have z21 : W0.frozen? ⟨w.heap.size + 1 + 1, 1, none⟩ = false := (K2.out.ext (Ext.refl W0)).frozen 1
  have y22 : W0.cell? ⟨w.heap.size + 1 + 1, 2, none⟩ = some (.slice none 0 0) := (K2.out.ext (Ext.refl W0)).cell 2
  have z22 : W0.frozen? ⟨w.heap.size + 1 + 1, 2, none⟩ = false := (K2.out.ext (Ext.refl W0)).frozen 2
  have y30 : W0.cell? ⟨w.heap.size + 1 + 1 + 1, 0, none⟩ = some (.int .i64 0) := (K3.out.ext (Ext.refl W0)).cell 0
  have z30 : W0.frozen? ⟨w.heap.size + 1 + 1 + 1, 0, none⟩ = false := (K3.out.ext (Ext.refl W0)).frozen 0
  have y31 : W0.cell? ⟨w.heap.size + 1 + 1 + 1, 1, none⟩ = some (.int .u32 0) := (K3.out.ext (Ext.refl W0)).cell 1
  have z31 : W0.frozen? ⟨w.heap.size + 1 + 1 + 1, 1, none⟩ = false := (K3.out.ext (Ext.refl W0)).frozen 1
  go_wp2_with fail
  have W0L := K2.out.ext (Ext.refl W0)
  have W0M := K3.out.ext (Ext.refl W0)
  have hfin : Fr (fun q => q = w.heap.size ∨ q = w.heap.size + 1 + 1 ∨ q = w.heap.size + 1 + 1 + 1) W0 (((((W0.setCell ⟨w.heap.size + 1 + 1, 0, none⟩ (.slice A0 0 c0)).setCell ⟨w.heap.size + 1 + 1, 1, none⟩ (.slice A1 n1 c1)).setCell ⟨w.heap.size + 1 + 1, 2, none⟩ (.slice A2 n2 c2)).setCell ⟨w.heap.size + 1 + 1 + 1, 0, none⟩ (.int .i64 2)).setCell ⟨w.heap.size + 1 + 1 + 1, 1, none⟩ (.int .u32 0)) ∧ ((((((W0.setCell ⟨w.heap.size + 1 + 1, 0, none⟩ (.slice A0 0 c0)).setCell ⟨w.heap.size + 1 + 1, 1, none⟩ (.slice A1 n1 c1)).setCell ⟨w.heap.size + 1 + 1, 2, none⟩ (.slice A2 n2 c2)).setCell ⟨w.heap.size + 1 + 1 + 1, 0, none⟩ (.int .i64 2)).setCell ⟨w.heap.size + 1 + 1 + 1, 1, none⟩ (.int .u32 0)).cell? ⟨w.heap.size + 1 + 1, 0, none⟩ = some (.slice A0 0 c0) ∧ (((((W0.setCell ⟨w.heap.size + 1 + 1, 0, none⟩ (.slice A0 0 c0)).setCell ⟨w.heap.size + 1 + 1, 1, none⟩ (.slice A1 n1 c1)).setCell ⟨w.heap.size + 1 + 1, 2, none⟩ (.slice A2 n2 c2)).setCell ⟨w.heap.size + 1 + 1 + 1, 0, none⟩ (.int .i64 2)).setCell ⟨w.heap.size + 1 + 1 + 1, 1, none⟩ (.int .u32 0)).cell? ⟨w.heap.size + 1 + 1, 1, none⟩ = some (.slice A1 n1 c1) ∧ (((((W0.setCell ⟨w.heap.size + 1 + 1, 0, none⟩ (.slice A0 0 c0)).setCell ⟨w.heap.size + 1 + 1, 1, none⟩ (.slice A1 n1 c1)).setCell ⟨w.heap.size + 1 + 1, 2, none⟩ (.slice A2 n2 c2)).setCell ⟨w.heap.size + 1 + 1 + 1, 0, none⟩ (.int .i64 2)).setCell ⟨w.heap.size + 1 + 1 + 1, 1, none⟩ (.int .u32 0)).cell? ⟨w.heap.size + 1 + 1, 2, none⟩ = some (.slice A2 n2 c2) ∧ (((((W0.setCell ⟨w.heap.size + 1 + 1, 0, none⟩ (.slice A0 0 c0)).setCell ⟨w.heap.size + 1 + 1, 1, none⟩ (.slice A1 n1 c1)).setCell ⟨w.heap.size + 1 + 1, 2, none⟩ (.slice A2 n2 c2)).setCell ⟨w.heap.size + 1 + 1 + 1, 0, none⟩ (.int .i64 2)).setCell ⟨w.heap.size + 1 + 1 + 1, 1, none⟩ (.int .u32 0)).cell? ⟨w.heap.size + 1 + 1 + 1, 0, none⟩ = some (.int .i64 2) ∧ (((((W0.setCell ⟨w.heap.size + 1 + 1, 0, none⟩ (.slice A0 0 c0)).setCell ⟨w.heap.size + 1 + 1, 1, none⟩ (.slice A1 n1 c1)).setCell ⟨w.heap.size + 1 + 1, 2, none⟩ (.slice A2 n2 c2)).setCell ⟨w.heap.size + 1 + 1 + 1, 0, none⟩ (.int .i64 2)).setCell ⟨w.heap.size + 1 + 1 + 1, 1, none⟩ (.int .u32 0)).cell? ⟨w.heap.size + 1 + 1 + 1, 1, none⟩ = some (.int .u32 0)) := fin_ret W0 w.heap.size none (.slice A0 0 c0) (.slice A1 n1 c1) (.slice A2 n2 c2) 2 0 W0L W0M
  have fz := hfin.1
  have hcs := hfin.2
  clear hfin W0L W0M
  have X7 := fz.ext (X0.out.trans (Ext.refl W0)) (fun q e => by rcases e with e | e | e <;> omega)
  have S7 : StF w (((((W0.setCell ⟨w.heap.size + 1 + 1, 0, none⟩ (.slice A0 0 c0)).setCell ⟨w.heap.size + 1 + 1, 1, none⟩ (.slice A1 n1 c1)).setCell ⟨w.heap.size + 1 + 1, 2, none⟩ (.slice A2 n2 c2)).setCell ⟨w.heap.size + 1 + 1 + 1, 0, none⟩ (.int .i64 2)).setCell ⟨w.heap.size + 1 + 1 + 1, 1, none⟩ (.int .u32 0)) A0 A1 A2 0 n1 n2 A0 A1 A2 st := fun W8 f8 => by
    have fz8 : Fr (fun q => (q = w.heap.size ∨ q = w.heap.size + 1 + 1 ∨ q = w.heap.size + 1 + 1 + 1) ∨ OldB w A0 A1 A2 0 n1 n2 q) W0 W8 := (fz.mono (fun _ _ h => Or.inl h)).trans f8 (fun _ _ h => Or.inr h)
    exact stF_old HLL.out (HS.out.ext X7) f8
  clear y00 y01 y02 y10 y11 y12 y20 y21 y22 y30 y31 z00 z01 z02 z20 z21 z22 z30 z31
  generalize (((((W0.setCell ⟨w.heap.size + 1 + 1, 0, none⟩ (.slice A0 0 c0)).setCell ⟨w.heap.size + 1 + 1, 1, none⟩ (.slice A1 n1 c1)).setCell ⟨w.heap.size + 1 + 1, 2, none⟩ (.slice A2 n2 c2)).setCell ⟨w.heap.size + 1 + 1 + 1, 0, none⟩ (.int .i64 2)).setCell ⟨w.heap.size + 1 + 1 + 1, 1, none⟩ (.int .u32 0)) = W7 at *
  obtain ⟨q0, q1, q2, q3, q4⟩ := hcs
  exact bodyPost_ret (v := .tuple #[.agg #[.slice A0 0 c0, .slice A1 n1 c1, .slice A2 n2 c2], .agg #[.int .i64 2, .int .u32 0]]) (by simp [results, Try.results10, go_sem, q0, q1, q2, q3, q4]) rfl ⟨A0, A1, A2, _, _, _, by rw [HLL.out.q, HLL.out.s, HLL.out.m], ⟨by rw [HLL.out.q]; exact HCP.out.1, HCP.out.2⟩, S7, ⟨fun h0 ad e => Or.inl ⟨(by have h9 : 0 < st.q.length := h0; have := HLL.out.q; omega), ad, e, rfl⟩, fun h0 ad e => Or.inl ⟨(by have h9 : 0 < st.s.length := h0; have := HLL.out.s; omega), ad, e, rfl⟩, fun h0 ad e => Or.inl ⟨(by have h9 : 0 < st.m.length := h0; have := HLL.out.m; omega), ad, e, rfl⟩⟩, X7⟩
end Go.Proofs.Ythbngenjcgclgaa
