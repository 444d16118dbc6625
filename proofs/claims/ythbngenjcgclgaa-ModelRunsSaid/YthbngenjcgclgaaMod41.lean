/- Layer 8: the document's Apply, of the queue's first. Conditions: those that each theorem names. -/
import Derived.Test.YthbngenjcgclgaaMod39
import Derived.Deep.Slices
namespace Go.Proofs.Ythbngenjcgclgaa
open Go.ChangeShapes Go.WideShapes Go.ChangeAt Go.RowKit
set_option linter.unusedVariables false
set_option maxRecDepth 100000 in
set_option maxHeartbeats 4000000 in
theorem rApp2_one (w : World) (A0 A1 A2 : Option Addr) (n0 n1 n2 c0 c1 c2 : Nat) (st : Sta) (a b : Int) (h : StAt w A0 A1 A2 st) (hl : Lens st n0 n1 n2) (m0 : n0 ≤ 1000) (m1 : n1 ≤ 1000) (m2 : n2 ≤ 1000) (hcap : n0 ≤ c0 ∧ c0 ≤ 9223372036854775807) (z : Int) (zs : List Int) (L : Nat) (ad : Addr) (hq : st.q = z :: zs) (hA : A0 = some ad) (hn : n0 = L + 1) (hc : c0 = 1) :
    Calls Try.prog 10 #[.agg #[.slice A0 n0 c0, .slice A1 n1 c1, .slice A2 n2 c2], .agg #[.int .i64 2, .int .u32 a, .int .u32 b]] w (RPost w A0 A1 A2 n0 n1 n2 (doS st 2 a b).1 (doS st 2 a b).2) := by
  have hcn := hcap.1
  have hc6 := hcap.2
  have e0 : doS st 2 a b = (⟨zs, st.s, st.m⟩, (1, z)) := by
    obtain ⟨q, s, m⟩ := st
    simp only at hq
    subst hq
    rfl
  rw [e0]
  have hLL : zs.length = L := by have := hl.q; rw [hq, hn] at this; simpa using this
  have hI := h.q
  rw [hq, hA] at hI
  obtain ⟨ad', e1, hbl, hcell⟩ := hI (by simp)
  injection e1 with e1
  subst e1
  have q0 : w.cell? (ad.add 0) = some (.int .u32 z) := hcell 0 (by simp)
  rw [show ad.add 0 = ad by unfold Addr.add; simp] at q0
  have hZS : Hid (Ints w .u32 (some ad) zs) := Lib.hid (by
    have hz : zs = [] := List.length_eq_zero_iff.1 (by omega)
    rw [hz]
    exact Ints.none _ _ _)
  have HLn := Lib.hid hLL
  subst hA hn
  subst hc
  obtain rfl : L = 0 := by omega
  clear e0 hcell hI hLL hq
  have HS := Lib.hid h
  have HLL := Lib.hid hl
  have HCP := Lib.hid hcap
  obtain ⟨k0, k1, k2, k3⟩ := four_new w (.slice (some ad) (0 + 1) 1) (.slice A1 n1 c1) (.slice A2 n2 c2) 2 a b
  have K0 := Lib.hid k0
  have K1 := Lib.hid k1
  have K2 := Lib.hid k2
  have K3 := Lib.hid k3
  have X0 := Lib.hid (((((Ext.refl w).alloc (.cells #[.slice (some ad) (0 + 1) 1, .slice A1 n1 c1, .slice A2 n2 c2] 25)).alloc (.cells #[.int .i64 2, .int .u32 a, .int .u32 b] 38)).alloc (.cells #[.slice none 0 0, .slice none 0 0, .slice none 0 0] 25)).alloc (.cells #[.int .i64 0, .int .u32 0] 34))
  clear h hl k0 k1 k2 k3 hcap
  go_enter Try.func10, Try.ntmps10
  go_upto_region 1 with fail
  generalize ((((w.alloc (.cells #[.slice (some ad) (0 + 1) 1, .slice A1 n1 c1, .slice A2 n2 c2] 25)).alloc (.cells #[.int .i64 2, .int .u32 a, .int .u32 b] 38)).alloc (.cells #[.slice none 0 0, .slice none 0 0, .slice none 0 0] 25)).alloc (.cells #[.int .i64 0, .int .u32 0] 34)) = W0 at *
  have s3 : w.heap.size + 1 + 1 + 1 < W0.heap.size := K3.out.lt
  have e01 : ¬ w.heap.size = w.heap.size + 1 := by omega
  have e02 : ¬ w.heap.size = w.heap.size + 1 + 1 := by omega
  have e03 : ¬ w.heap.size = w.heap.size + 1 + 1 + 1 := by omega
  have e20 : ¬ w.heap.size + 1 + 1 = w.heap.size := by omega
  have e23 : ¬ w.heap.size + 1 + 1 = w.heap.size + 1 + 1 + 1 := by omega
  have e30 : ¬ w.heap.size + 1 + 1 + 1 = w.heap.size := by omega
  have e32 : ¬ w.heap.size + 1 + 1 + 1 = w.heap.size + 1 + 1 := by omega
  have e10 : ¬ w.heap.size + 1 = w.heap.size := by omega
  have q0' : W0.cell? ad = some (.int .u32 z) := (World.cell?_of_block (X0.out.block _ hbl)).trans q0
  have hlen : ((0 : Int) + 1 == 0) = false := by decide
  have y00 : W0.cell? ⟨w.heap.size, 0, none⟩ = some (.slice (some ad) (0 + 1) 1) := (K0.out.ext (Ext.refl W0)).cell 0
  have z00 : W0.frozen? ⟨w.heap.size, 0, none⟩ = false := (K0.out.ext (Ext.refl W0)).frozen 0
  have y01 : W0.cell? ⟨w.heap.size, 1, none⟩ = some (.slice A1 n1 c1) := (K0.out.ext (Ext.refl W0)).cell 1
  have z01 : W0.frozen? ⟨w.heap.size, 1, none⟩ = false := (K0.out.ext (Ext.refl W0)).frozen 1
  have y02 : W0.cell? ⟨w.heap.size, 2, none⟩ = some (.slice A2 n2 c2) := (K0.out.ext (Ext.refl W0)).cell 2
  have z02 : W0.frozen? ⟨w.heap.size, 2, none⟩ = false := (K0.out.ext (Ext.refl W0)).frozen 2
  have y10 : W0.cell? ⟨w.heap.size + 1, 0, none⟩ = some (.int .i64 2) := (K1.out.ext (Ext.refl W0)).cell 0
  have y11 : W0.cell? ⟨w.heap.size + 1, 1, none⟩ = some (.int .u32 a) := (K1.out.ext (Ext.refl W0)).cell 1
  have y12 : W0.cell? ⟨w.heap.size + 1, 2, none⟩ = some (.int .u32 b) := (K1.out.ext (Ext.refl W0)).cell 2
  have y20 : W0.cell? ⟨w.heap.size + 1 + 1, 0, none⟩ = some (.slice none 0 0) := (K2.out.ext (Ext.refl W0)).cell 0
  have z20 : W0.frozen? ⟨w.heap.size + 1 + 1, 0, none⟩ = false := (K2.out.ext (Ext.refl W0)).frozen 0
  have y21 : W0.cell? ⟨w.heap.size + 1 + 1, 1, none⟩ = some (.slice none 0 0) := (K2.out.ext (Ext.refl W0)).cell 1
  have z21 : W0.frozen? ⟨w.heap.size + 1 + 1, 1, none⟩ = false := (K2.out.ext (Ext.refl W0)).frozen 1
  have y22 : W0.cell? ⟨w.heap.size + 1 + 1, 2, none⟩ = some (.slice none 0 0) := (K2.out.ext (Ext.refl W0)).cell 2
  have z22 : W0.frozen? ⟨w.heap.size + 1 + 1, 2, none⟩ = false := (K2.out.ext (Ext.refl W0)).frozen 2
  have y30 : W0.cell? ⟨w.heap.size + 1 + 1 + 1, 0, none⟩ = some (.int .i64 0) := (K3.out.ext (Ext.refl W0)).cell 0
  have z30 : W0.frozen? ⟨w.heap.size + 1 + 1 + 1, 0, none⟩ = false := (K3.out.ext (Ext.refl W0)).frozen 0
  have y31 : W0.cell? ⟨w.heap.size + 1 + 1 + 1, 1, none⟩ = some (.int .u32 0) := (K3.out.ext (Ext.refl W0)).cell 1
  have z31 : W0.frozen? ⟨w.heap.size + 1 + 1 + 1, 1, none⟩ = false := (K3.out.ext (Ext.refl W0)).frozen 1
  go_wp2_with fail
  have W0L := K2.out.ext (Ext.refl W0)
  have W0M := K3.out.ext (Ext.refl W0)
  have hfin : Fr (fun q => q = w.heap.size ∨ q = w.heap.size + 1 + 1 ∨ q = w.heap.size + 1 + 1 + 1) W0 ((((((W0.setCell ⟨w.heap.size, 0, none⟩ (.slice (some ad) 0 0)).setCell ⟨w.heap.size + 1 + 1, 0, none⟩ (.slice (some ad) 0 0)).setCell ⟨w.heap.size + 1 + 1, 1, none⟩ (.slice A1 n1 c1)).setCell ⟨w.heap.size + 1 + 1, 2, none⟩ (.slice A2 n2 c2)).setCell ⟨w.heap.size + 1 + 1 + 1, 0, none⟩ (.int .i64 1)).setCell ⟨w.heap.size + 1 + 1 + 1, 1, none⟩ (.int .u32 z)) ∧ (((((((W0.setCell ⟨w.heap.size, 0, none⟩ (.slice (some ad) 0 0)).setCell ⟨w.heap.size + 1 + 1, 0, none⟩ (.slice (some ad) 0 0)).setCell ⟨w.heap.size + 1 + 1, 1, none⟩ (.slice A1 n1 c1)).setCell ⟨w.heap.size + 1 + 1, 2, none⟩ (.slice A2 n2 c2)).setCell ⟨w.heap.size + 1 + 1 + 1, 0, none⟩ (.int .i64 1)).setCell ⟨w.heap.size + 1 + 1 + 1, 1, none⟩ (.int .u32 z)).cell? ⟨w.heap.size + 1 + 1, 0, none⟩ = some (.slice (some ad) 0 0) ∧ ((((((W0.setCell ⟨w.heap.size, 0, none⟩ (.slice (some ad) 0 0)).setCell ⟨w.heap.size + 1 + 1, 0, none⟩ (.slice (some ad) 0 0)).setCell ⟨w.heap.size + 1 + 1, 1, none⟩ (.slice A1 n1 c1)).setCell ⟨w.heap.size + 1 + 1, 2, none⟩ (.slice A2 n2 c2)).setCell ⟨w.heap.size + 1 + 1 + 1, 0, none⟩ (.int .i64 1)).setCell ⟨w.heap.size + 1 + 1 + 1, 1, none⟩ (.int .u32 z)).cell? ⟨w.heap.size + 1 + 1, 1, none⟩ = some (.slice A1 n1 c1) ∧ ((((((W0.setCell ⟨w.heap.size, 0, none⟩ (.slice (some ad) 0 0)).setCell ⟨w.heap.size + 1 + 1, 0, none⟩ (.slice (some ad) 0 0)).setCell ⟨w.heap.size + 1 + 1, 1, none⟩ (.slice A1 n1 c1)).setCell ⟨w.heap.size + 1 + 1, 2, none⟩ (.slice A2 n2 c2)).setCell ⟨w.heap.size + 1 + 1 + 1, 0, none⟩ (.int .i64 1)).setCell ⟨w.heap.size + 1 + 1 + 1, 1, none⟩ (.int .u32 z)).cell? ⟨w.heap.size + 1 + 1, 2, none⟩ = some (.slice A2 n2 c2) ∧ ((((((W0.setCell ⟨w.heap.size, 0, none⟩ (.slice (some ad) 0 0)).setCell ⟨w.heap.size + 1 + 1, 0, none⟩ (.slice (some ad) 0 0)).setCell ⟨w.heap.size + 1 + 1, 1, none⟩ (.slice A1 n1 c1)).setCell ⟨w.heap.size + 1 + 1, 2, none⟩ (.slice A2 n2 c2)).setCell ⟨w.heap.size + 1 + 1 + 1, 0, none⟩ (.int .i64 1)).setCell ⟨w.heap.size + 1 + 1 + 1, 1, none⟩ (.int .u32 z)).cell? ⟨w.heap.size + 1 + 1 + 1, 0, none⟩ = some (.int .i64 1) ∧ ((((((W0.setCell ⟨w.heap.size, 0, none⟩ (.slice (some ad) 0 0)).setCell ⟨w.heap.size + 1 + 1, 0, none⟩ (.slice (some ad) 0 0)).setCell ⟨w.heap.size + 1 + 1, 1, none⟩ (.slice A1 n1 c1)).setCell ⟨w.heap.size + 1 + 1, 2, none⟩ (.slice A2 n2 c2)).setCell ⟨w.heap.size + 1 + 1 + 1, 0, none⟩ (.int .i64 1)).setCell ⟨w.heap.size + 1 + 1 + 1, 1, none⟩ (.int .u32 z)).cell? ⟨w.heap.size + 1 + 1 + 1, 1, none⟩ = some (.int .u32 z)) := fin_ret W0 w.heap.size (some (0, .slice (some ad) 0 0)) (.slice (some ad) 0 0) (.slice A1 n1 c1) (.slice A2 n2 c2) 1 z W0L W0M
  have fz := hfin.1
  have hcs := hfin.2
  clear hfin W0L W0M
  have X7 := fz.ext (X0.out.trans (Ext.refl W0)) (fun q e => by rcases e with e | e | e <;> omega)
  have S7 : StF w ((((((W0.setCell ⟨w.heap.size, 0, none⟩ (.slice (some ad) 0 0)).setCell ⟨w.heap.size + 1 + 1, 0, none⟩ (.slice (some ad) 0 0)).setCell ⟨w.heap.size + 1 + 1, 1, none⟩ (.slice A1 n1 c1)).setCell ⟨w.heap.size + 1 + 1, 2, none⟩ (.slice A2 n2 c2)).setCell ⟨w.heap.size + 1 + 1 + 1, 0, none⟩ (.int .i64 1)).setCell ⟨w.heap.size + 1 + 1 + 1, 1, none⟩ (.int .u32 z)) (some ad) A1 A2 (0 + 1) n1 n2 (some ad) A1 A2 ⟨zs, st.s, st.m⟩ := fun W8 f8 => by
    have fz8 : Fr (fun q => (q = w.heap.size ∨ q = w.heap.size + 1 + 1 ∨ q = w.heap.size + 1 + 1 + 1) ∨ OldB w (some ad) A1 A2 (0 + 1) n1 n2 q) W0 W8 := (fz.mono (fun _ _ h => Or.inl h)).trans f8 (fun _ _ h => Or.inr h)
    exact ⟨(hZS.out.ext X7).fr f8 (fun ad2 e2 hs => hs.2.1 (by omega) ad rfl (by injection e2 with e2; rw [← e2])), ints_frN (HS.out.s.ext X7) f8 (fun h0 ad e hs => hs.2.2.1 (by rw [← HLL.out.s]; exact h0) ad e rfl), pat_frN (HS.out.m.ext X7) f8 (fun h0 ad e hs => hs.2.2.2 (by rw [← HLL.out.m]; exact h0) ad e rfl)⟩
  clear y00 y01 y02 y10 y11 y12 y20 y21 y22 y30 y31 z00 z01 z02 z20 z21 z22 z30 z31
  generalize ((((((W0.setCell ⟨w.heap.size, 0, none⟩ (.slice (some ad) 0 0)).setCell ⟨w.heap.size + 1 + 1, 0, none⟩ (.slice (some ad) 0 0)).setCell ⟨w.heap.size + 1 + 1, 1, none⟩ (.slice A1 n1 c1)).setCell ⟨w.heap.size + 1 + 1, 2, none⟩ (.slice A2 n2 c2)).setCell ⟨w.heap.size + 1 + 1 + 1, 0, none⟩ (.int .i64 1)).setCell ⟨w.heap.size + 1 + 1 + 1, 1, none⟩ (.int .u32 z)) = W7 at *
  obtain ⟨q0, q1, q2, q3, q4⟩ := hcs
  exact bodyPost_ret (v := .tuple #[.agg #[.slice (some ad) 0 0, .slice A1 n1 c1, .slice A2 n2 c2], .agg #[.int .i64 1, .int .u32 z]]) (by simp [results, Try.results10, go_sem, q0, q1, q2, q3, q4]) rfl ⟨(some ad), A1, A2, _, _, _, by show _ = Ending.returned (.tuple #[.agg #[.slice (some ad) zs.length 0, .slice A1 st.s.length c1, .slice A2 st.m.length c2], _]); rw [HLn.out, HLL.out.s, HLL.out.m], ⟨by show zs.length ≤ _; rw [HLn.out]; omega, by omega⟩, S7, ⟨fun h0 ad2 e2 => Or.inl ⟨by omega, ad, rfl, by injection e2 with e2; rw [← e2]⟩, fun h0 ad e => Or.inl ⟨(by have h9 : 0 < st.s.length := h0; have := HLL.out.s; omega), ad, e, rfl⟩, fun h0 ad e => Or.inl ⟨(by have h9 : 0 < st.m.length := h0; have := HLL.out.m; omega), ad, e, rfl⟩⟩, X7⟩
set_option maxRecDepth 100000 in
set_option maxHeartbeats 4000000 in
theorem rApp2_more (w : World) (A0 A1 A2 : Option Addr) (n0 n1 n2 c0 c1 c2 : Nat) (st : Sta) (a b : Int) (h : StAt w A0 A1 A2 st) (hl : Lens st n0 n1 n2) (m0 : n0 ≤ 1000) (m1 : n1 ≤ 1000) (m2 : n2 ≤ 1000) (hcap : n0 ≤ c0 ∧ c0 ≤ 9223372036854775807) (z : Int) (zs : List Int) (L : Nat) (ad : Addr) (hq : st.q = z :: zs) (hA : A0 = some ad) (hn : n0 = L + 1) (hc : 1 < c0) :
    Calls Try.prog 10 #[.agg #[.slice A0 n0 c0, .slice A1 n1 c1, .slice A2 n2 c2], .agg #[.int .i64 2, .int .u32 a, .int .u32 b]] w (RPost w A0 A1 A2 n0 n1 n2 (doS st 2 a b).1 (doS st 2 a b).2) := by
  have hcn := hcap.1
  have hc6 := hcap.2
  have e0 : doS st 2 a b = (⟨zs, st.s, st.m⟩, (1, z)) := by
    obtain ⟨q, s, m⟩ := st
    simp only at hq
    subst hq
    rfl
  rw [e0]
  have hLL : zs.length = L := by have := hl.q; rw [hq, hn] at this; simpa using this
  have hI := h.q
  rw [hq, hA] at hI
  obtain ⟨ad', e1, hbl, hcell⟩ := hI (by simp)
  injection e1 with e1
  subst e1
  have q0 : w.cell? (ad.add 0) = some (.int .u32 z) := hcell 0 (by simp)
  rw [show ad.add 0 = ad by unfold Addr.add; simp] at q0
  have hZS : Hid (Ints w .u32 (some ⟨ad.block, ad.off + 1, none⟩) zs) := Lib.hid (fun h0 => ⟨_, rfl, hbl, fun j hj => by
    have := hcell (1 + j) (by simp; omega)
    have e : (⟨ad.block, ad.off + 1, none⟩ : Addr) = ad.add 1 := rfl
    rw [e, Go.Deep.add_add, this, show 1 + j = j + 1 by omega]
    rfl⟩)
  have HLn := Lib.hid hLL
  subst hA hn
  clear e0 hcell hI hLL hq
  have HS := Lib.hid h
  have HLL := Lib.hid hl
  have HCP := Lib.hid hcap
  obtain ⟨k0, k1, k2, k3⟩ := four_new w (.slice (some ad) (L + 1) c0) (.slice A1 n1 c1) (.slice A2 n2 c2) 2 a b
  have K0 := Lib.hid k0
  have K1 := Lib.hid k1
  have K2 := Lib.hid k2
  have K3 := Lib.hid k3
  have X0 := Lib.hid (((((Ext.refl w).alloc (.cells #[.slice (some ad) (L + 1) c0, .slice A1 n1 c1, .slice A2 n2 c2] 25)).alloc (.cells #[.int .i64 2, .int .u32 a, .int .u32 b] 38)).alloc (.cells #[.slice none 0 0, .slice none 0 0, .slice none 0 0] 25)).alloc (.cells #[.int .i64 0, .int .u32 0] 34))
  clear h hl k0 k1 k2 k3 hcap
  go_enter Try.func10, Try.ntmps10
  go_upto_region 1 with fail
  generalize ((((w.alloc (.cells #[.slice (some ad) (L + 1) c0, .slice A1 n1 c1, .slice A2 n2 c2] 25)).alloc (.cells #[.int .i64 2, .int .u32 a, .int .u32 b] 38)).alloc (.cells #[.slice none 0 0, .slice none 0 0, .slice none 0 0] 25)).alloc (.cells #[.int .i64 0, .int .u32 0] 34)) = W0 at *
  have s3 : w.heap.size + 1 + 1 + 1 < W0.heap.size := K3.out.lt
  have e01 : ¬ w.heap.size = w.heap.size + 1 := by omega
  have e02 : ¬ w.heap.size = w.heap.size + 1 + 1 := by omega
  have e03 : ¬ w.heap.size = w.heap.size + 1 + 1 + 1 := by omega
  have e20 : ¬ w.heap.size + 1 + 1 = w.heap.size := by omega
  have e23 : ¬ w.heap.size + 1 + 1 = w.heap.size + 1 + 1 + 1 := by omega
  have e30 : ¬ w.heap.size + 1 + 1 + 1 = w.heap.size := by omega
  have e32 : ¬ w.heap.size + 1 + 1 + 1 = w.heap.size + 1 + 1 := by omega
  have e10 : ¬ w.heap.size + 1 = w.heap.size := by omega
  have q0' : W0.cell? ad = some (.int .u32 z) := (World.cell?_of_block (X0.out.block _ hbl)).trans q0
  have hcc : ¬ 1 = c0 := by omega
  have hcd : 1 ≤ c0 := by omega
  have hlen : ((L : Int) + 1 == 0) = false := by simp; omega
  have y00 : W0.cell? ⟨w.heap.size, 0, none⟩ = some (.slice (some ad) (L + 1) c0) := (K0.out.ext (Ext.refl W0)).cell 0
  have z00 : W0.frozen? ⟨w.heap.size, 0, none⟩ = false := (K0.out.ext (Ext.refl W0)).frozen 0
  have y01 : W0.cell? ⟨w.heap.size, 1, none⟩ = some (.slice A1 n1 c1) := (K0.out.ext (Ext.refl W0)).cell 1
  have z01 : W0.frozen? ⟨w.heap.size, 1, none⟩ = false := (K0.out.ext (Ext.refl W0)).frozen 1
  have y02 : W0.cell? ⟨w.heap.size, 2, none⟩ = some (.slice A2 n2 c2) := (K0.out.ext (Ext.refl W0)).cell 2
  have z02 : W0.frozen? ⟨w.heap.size, 2, none⟩ = false := (K0.out.ext (Ext.refl W0)).frozen 2
  have y10 : W0.cell? ⟨w.heap.size + 1, 0, none⟩ = some (.int .i64 2) := (K1.out.ext (Ext.refl W0)).cell 0
  have y11 : W0.cell? ⟨w.heap.size + 1, 1, none⟩ = some (.int .u32 a) := (K1.out.ext (Ext.refl W0)).cell 1
  have y12 : W0.cell? ⟨w.heap.size + 1, 2, none⟩ = some (.int .u32 b) := (K1.out.ext (Ext.refl W0)).cell 2
  have y20 : W0.cell? ⟨w.heap.size + 1 + 1, 0, none⟩ = some (.slice none 0 0) := (K2.out.ext (Ext.refl W0)).cell 0
  have z20 : W0.frozen? ⟨w.heap.size + 1 + 1, 0, none⟩ = false := (K2.out.ext (Ext.refl W0)).frozen 0
  have y21 : W0.cell? ⟨w.heap.size + 1 + 1, 1, none⟩ = some (.slice none 0 0) := (K2.out.ext (Ext.refl W0)).cell 1
  have z21 : W0.frozen? ⟨w.heap.size + 1 + 1, 1, none⟩ = false := (K2.out.ext (Ext.refl W0)).frozen 1
  have y22 : W0.cell? ⟨w.heap.size + 1 + 1, 2, none⟩ = some (.slice none 0 0) := (K2.out.ext (Ext.refl W0)).cell 2
  have z22 : W0.frozen? ⟨w.heap.size + 1 + 1, 2, none⟩ = false := (K2.out.ext (Ext.refl W0)).frozen 2
  have y30 : W0.cell? ⟨w.heap.size + 1 + 1 + 1, 0, none⟩ = some (.int .i64 0) := (K3.out.ext (Ext.refl W0)).cell 0
  have z30 : W0.frozen? ⟨w.heap.size + 1 + 1 + 1, 0, none⟩ = false := (K3.out.ext (Ext.refl W0)).frozen 0
  have y31 : W0.cell? ⟨w.heap.size + 1 + 1 + 1, 1, none⟩ = some (.int .u32 0) := (K3.out.ext (Ext.refl W0)).cell 1
  have z31 : W0.frozen? ⟨w.heap.size + 1 + 1 + 1, 1, none⟩ = false := (K3.out.ext (Ext.refl W0)).frozen 1
  go_wp2_with fail
  have W0L := K2.out.ext (Ext.refl W0)
  have W0M := K3.out.ext (Ext.refl W0)
  have hfin : Fr (fun q => q = w.heap.size ∨ q = w.heap.size + 1 + 1 ∨ q = w.heap.size + 1 + 1 + 1) W0 ((((((W0.setCell ⟨w.heap.size, 0, none⟩ (.slice (some ⟨ad.block, ad.off + 1, none⟩) L (c0 - 1))).setCell ⟨w.heap.size + 1 + 1, 0, none⟩ (.slice (some ⟨ad.block, ad.off + 1, none⟩) L (c0 - 1))).setCell ⟨w.heap.size + 1 + 1, 1, none⟩ (.slice A1 n1 c1)).setCell ⟨w.heap.size + 1 + 1, 2, none⟩ (.slice A2 n2 c2)).setCell ⟨w.heap.size + 1 + 1 + 1, 0, none⟩ (.int .i64 1)).setCell ⟨w.heap.size + 1 + 1 + 1, 1, none⟩ (.int .u32 z)) ∧ (((((((W0.setCell ⟨w.heap.size, 0, none⟩ (.slice (some ⟨ad.block, ad.off + 1, none⟩) L (c0 - 1))).setCell ⟨w.heap.size + 1 + 1, 0, none⟩ (.slice (some ⟨ad.block, ad.off + 1, none⟩) L (c0 - 1))).setCell ⟨w.heap.size + 1 + 1, 1, none⟩ (.slice A1 n1 c1)).setCell ⟨w.heap.size + 1 + 1, 2, none⟩ (.slice A2 n2 c2)).setCell ⟨w.heap.size + 1 + 1 + 1, 0, none⟩ (.int .i64 1)).setCell ⟨w.heap.size + 1 + 1 + 1, 1, none⟩ (.int .u32 z)).cell? ⟨w.heap.size + 1 + 1, 0, none⟩ = some (.slice (some ⟨ad.block, ad.off + 1, none⟩) L (c0 - 1)) ∧ ((((((W0.setCell ⟨w.heap.size, 0, none⟩ (.slice (some ⟨ad.block, ad.off + 1, none⟩) L (c0 - 1))).setCell ⟨w.heap.size + 1 + 1, 0, none⟩ (.slice (some ⟨ad.block, ad.off + 1, none⟩) L (c0 - 1))).setCell ⟨w.heap.size + 1 + 1, 1, none⟩ (.slice A1 n1 c1)).setCell ⟨w.heap.size + 1 + 1, 2, none⟩ (.slice A2 n2 c2)).setCell ⟨w.heap.size + 1 + 1 + 1, 0, none⟩ (.int .i64 1)).setCell ⟨w.heap.size + 1 + 1 + 1, 1, none⟩ (.int .u32 z)).cell? ⟨w.heap.size + 1 + 1, 1, none⟩ = some (.slice A1 n1 c1) ∧ ((((((W0.setCell ⟨w.heap.size, 0, none⟩ (.slice (some ⟨ad.block, ad.off + 1, none⟩) L (c0 - 1))).setCell ⟨w.heap.size + 1 + 1, 0, none⟩ (.slice (some ⟨ad.block, ad.off + 1, none⟩) L (c0 - 1))).setCell ⟨w.heap.size + 1 + 1, 1, none⟩ (.slice A1 n1 c1)).setCell ⟨w.heap.size + 1 + 1, 2, none⟩ (.slice A2 n2 c2)).setCell ⟨w.heap.size + 1 + 1 + 1, 0, none⟩ (.int .i64 1)).setCell ⟨w.heap.size + 1 + 1 + 1, 1, none⟩ (.int .u32 z)).cell? ⟨w.heap.size + 1 + 1, 2, none⟩ = some (.slice A2 n2 c2) ∧ ((((((W0.setCell ⟨w.heap.size, 0, none⟩ (.slice (some ⟨ad.block, ad.off + 1, none⟩) L (c0 - 1))).setCell ⟨w.heap.size + 1 + 1, 0, none⟩ (.slice (some ⟨ad.block, ad.off + 1, none⟩) L (c0 - 1))).setCell ⟨w.heap.size + 1 + 1, 1, none⟩ (.slice A1 n1 c1)).setCell ⟨w.heap.size + 1 + 1, 2, none⟩ (.slice A2 n2 c2)).setCell ⟨w.heap.size + 1 + 1 + 1, 0, none⟩ (.int .i64 1)).setCell ⟨w.heap.size + 1 + 1 + 1, 1, none⟩ (.int .u32 z)).cell? ⟨w.heap.size + 1 + 1 + 1, 0, none⟩ = some (.int .i64 1) ∧ ((((((W0.setCell ⟨w.heap.size, 0, none⟩ (.slice (some ⟨ad.block, ad.off + 1, none⟩) L (c0 - 1))).setCell ⟨w.heap.size + 1 + 1, 0, none⟩ (.slice (some ⟨ad.block, ad.off + 1, none⟩) L (c0 - 1))).setCell ⟨w.heap.size + 1 + 1, 1, none⟩ (.slice A1 n1 c1)).setCell ⟨w.heap.size + 1 + 1, 2, none⟩ (.slice A2 n2 c2)).setCell ⟨w.heap.size + 1 + 1 + 1, 0, none⟩ (.int .i64 1)).setCell ⟨w.heap.size + 1 + 1 + 1, 1, none⟩ (.int .u32 z)).cell? ⟨w.heap.size + 1 + 1 + 1, 1, none⟩ = some (.int .u32 z)) := fin_ret W0 w.heap.size (some (0, .slice (some ⟨ad.block, ad.off + 1, none⟩) L (c0 - 1))) (.slice (some ⟨ad.block, ad.off + 1, none⟩) L (c0 - 1)) (.slice A1 n1 c1) (.slice A2 n2 c2) 1 z W0L W0M
  have fz := hfin.1
  have hcs := hfin.2
  clear hfin W0L W0M
  have X7 := fz.ext (X0.out.trans (Ext.refl W0)) (fun q e => by rcases e with e | e | e <;> omega)
  have S7 : StF w ((((((W0.setCell ⟨w.heap.size, 0, none⟩ (.slice (some ⟨ad.block, ad.off + 1, none⟩) L (c0 - 1))).setCell ⟨w.heap.size + 1 + 1, 0, none⟩ (.slice (some ⟨ad.block, ad.off + 1, none⟩) L (c0 - 1))).setCell ⟨w.heap.size + 1 + 1, 1, none⟩ (.slice A1 n1 c1)).setCell ⟨w.heap.size + 1 + 1, 2, none⟩ (.slice A2 n2 c2)).setCell ⟨w.heap.size + 1 + 1 + 1, 0, none⟩ (.int .i64 1)).setCell ⟨w.heap.size + 1 + 1 + 1, 1, none⟩ (.int .u32 z)) (some ad) A1 A2 (L + 1) n1 n2 (some ⟨ad.block, ad.off + 1, none⟩) A1 A2 ⟨zs, st.s, st.m⟩ := fun W8 f8 => by
    have fz8 : Fr (fun q => (q = w.heap.size ∨ q = w.heap.size + 1 + 1 ∨ q = w.heap.size + 1 + 1 + 1) ∨ OldB w (some ad) A1 A2 (L + 1) n1 n2 q) W0 W8 := (fz.mono (fun _ _ h => Or.inl h)).trans f8 (fun _ _ h => Or.inr h)
    exact ⟨(hZS.out.ext X7).fr f8 (fun ad2 e2 hs => hs.2.1 (by omega) ad rfl (by injection e2 with e2; rw [← e2])), ints_frN (HS.out.s.ext X7) f8 (fun h0 ad e hs => hs.2.2.1 (by rw [← HLL.out.s]; exact h0) ad e rfl), pat_frN (HS.out.m.ext X7) f8 (fun h0 ad e hs => hs.2.2.2 (by rw [← HLL.out.m]; exact h0) ad e rfl)⟩
  clear y00 y01 y02 y10 y11 y12 y20 y21 y22 y30 y31 z00 z01 z02 z20 z21 z22 z30 z31
  generalize ((((((W0.setCell ⟨w.heap.size, 0, none⟩ (.slice (some ⟨ad.block, ad.off + 1, none⟩) L (c0 - 1))).setCell ⟨w.heap.size + 1 + 1, 0, none⟩ (.slice (some ⟨ad.block, ad.off + 1, none⟩) L (c0 - 1))).setCell ⟨w.heap.size + 1 + 1, 1, none⟩ (.slice A1 n1 c1)).setCell ⟨w.heap.size + 1 + 1, 2, none⟩ (.slice A2 n2 c2)).setCell ⟨w.heap.size + 1 + 1 + 1, 0, none⟩ (.int .i64 1)).setCell ⟨w.heap.size + 1 + 1 + 1, 1, none⟩ (.int .u32 z)) = W7 at *
  obtain ⟨q0, q1, q2, q3, q4⟩ := hcs
  exact bodyPost_ret (v := .tuple #[.agg #[.slice (some ⟨ad.block, ad.off + 1, none⟩) L (c0 - 1), .slice A1 n1 c1, .slice A2 n2 c2], .agg #[.int .i64 1, .int .u32 z]]) (by simp [results, Try.results10, go_sem, q0, q1, q2, q3, q4]) rfl ⟨(some ⟨ad.block, ad.off + 1, none⟩), A1, A2, _, _, _, by show _ = Ending.returned (.tuple #[.agg #[.slice (some ⟨ad.block, ad.off + 1, none⟩) zs.length (c0 - 1), .slice A1 st.s.length c1, .slice A2 st.m.length c2], _]); rw [HLn.out, HLL.out.s, HLL.out.m], ⟨by show zs.length ≤ _; rw [HLn.out]; omega, by omega⟩, S7, ⟨fun h0 ad2 e2 => Or.inl ⟨by omega, ad, rfl, by injection e2 with e2; rw [← e2]⟩, fun h0 ad e => Or.inl ⟨(by have h9 : 0 < st.s.length := h0; have := HLL.out.s; omega), ad, e, rfl⟩, fun h0 ad e => Or.inl ⟨(by have h9 : 0 < st.m.length := h0; have := HLL.out.m; omega), ad, e, rfl⟩⟩, X7⟩
end Go.Proofs.Ythbngenjcgclgaa
