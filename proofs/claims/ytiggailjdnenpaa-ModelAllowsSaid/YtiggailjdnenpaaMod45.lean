/- Layer 8: model.Allows. Conditions: those that each theorem names. -/
import Derived.Test.YtiggailjdnenpaaMod44
import Derived.Deep.RegionHeld3
namespace Go.Proofs.Ytiggailjdnenpaa
open Go.ChangeShapes Go.WideShapes Go.ChangeAt Go.RowKit
set_option linter.unusedVariables false
/-- The state that Allows tells, and whether the result may be. -/
def allowS (st : Sta) (k a b : Int) (r : Rs) : Sta × Bool :=
  if (decide (1 ≤ k) && decide (k ≤ 8)) = false then (st, false) else if r = (doS st k a b).2 then ((doS st k a b).1, true) else (st, decide (r = (5, 0)))
def AllowPost (w : World) (r : Sta × Bool) (e : Ending) (w' : World) : Prop := ∃ (B0 B1 B2 : Option Addr) (d0 d1 d2 : Nat), e = .returned (.tuple #[.agg #[.slice B0 r.1.q.length d0, .slice B1 r.1.s.length d1, .slice B2 r.1.m.length d2], .bool r.2]) ∧ StAt w' B0 B1 B2 r.1 ∧ Ext w w'
theorem StAt.fr {S : Nat → Prop} {w w' : World} {A0 A1 A2 : Option Addr} {st : Sta} (h : StAt w A0 A1 A2 st) (x : Fr S w w') (h0 : ∀ ad, A0 = some ad → 0 < st.q.length → ¬ S ad.block) (h1 : ∀ ad, A1 = some ad → 0 < st.s.length → ¬ S ad.block) (h2 : ∀ ad, A2 = some ad → 0 < st.m.length → ¬ S ad.block) : StAt w' A0 A1 A2 st := by
  refine ⟨fun hn => ?_, fun hn => ?_, fun hn => ?_⟩
  · obtain ⟨ad, e, hb, hc⟩ := h.q hn
    exact (Ints.fr h.q x (fun ad e => h0 ad e hn)) hn
  · exact (Ints.fr h.s x (fun ad e => h1 ad e hn)) hn
  · exact (PAt.fr h.m x (fun ad e => h2 ad e hn)) hn
theorem not_blk {w : World} {g : Nat} {t : TypeId} {cs : List Value} (hb : Blk w g t cs) (hv : ∀ u ∈ cs, ∀ k z, u ≠ Value.int k z) {p : Addr} {k : IntKind} {z : Int} (hc : w.cell? p = some (.int k z)) : p.block ≠ g := fun e => by
  unfold World.cell? at hc
  rw [e, hb] at hc
  simp only at hc
  split at hc
  · cases hc
  · rw [List.getElem?_toArray] at hc
    exact hv _ (List.mem_of_getElem? hc) k z rfl
theorem StAt.far {w : World} {A0 A1 A2 : Option Addr} {st : Sta} {g : Nat} {t : TypeId} {cs : List Value} (h : StAt w A0 A1 A2 st) (hb : Blk w g t cs) (hv : ∀ u ∈ cs, ∀ k z, u ≠ Value.int k z) :
    (∀ ad, A0 = some ad → 0 < st.q.length → ¬ ad.block = g) ∧ (∀ ad, A1 = some ad → 0 < st.s.length → ¬ ad.block = g) ∧ (∀ ad, A2 = some ad → 0 < st.m.length → ¬ ad.block = g) := by
  refine ⟨fun ad e hn => ?_, fun ad e hn => ?_, fun ad e hn => ?_⟩
  · obtain ⟨ad', e', _, hc⟩ := h.q hn
    rw [e] at e'
    injection e' with e'
    subst e'
    have := not_blk hb hv (hc 0 hn)
    rwa [add_block] at this
  · obtain ⟨ad', e', _, hc⟩ := h.s hn
    rw [e] at e'
    injection e' with e'
    subst e'
    have := not_blk hb hv (hc 0 hn)
    rwa [add_block] at this
  · obtain ⟨ad', e', _, hc⟩ := h.m hn
    rw [e] at e'
    injection e' with e'
    subst e'
    have := not_blk hb hv (hc 0 hn).1
    rwa [add_block] at this
theorem slices_no : ∀ u ∈ [Value.slice none 0 0, .slice none 0 0, .slice none 0 0], ∀ k z, u ≠ Value.int k z := fun u hu k z e => by
  subst e
  simp at hu
theorem parts_st {w : World} {B : Nat} {A0 A1 A2 : Option Addr} {d0 d1 d2 : Nat} {st : Sta} (h : Parts w B (.slice A0 st.q.length d0) (.slice A1 st.s.length d1) (.slice A2 st.m.length d2) st) : StAt w A0 A1 A2 st := by
  obtain ⟨B0, B1, B2, e0, e1, e2, h0, h1, h2, hs⟩ := h.view
  injection h0 with h0
  injection h1 with h1
  injection h2 with h2
  rw [h0, h1, h2]
  exact hs
set_option maxRecDepth 100000 in
set_option maxHeartbeats 8000000 in
theorem allows_ok (w : World) (A0 A1 A2 : Option Addr) (n0 n1 n2 c0 c1 c2 : Nat) (st : Sta) (k a b rk rv : Int) (h : StAt w A0 A1 A2 st) (hl : Lens st n0 n1 n2) (m0 : n0 ≤ 1000) (m1 : n1 ≤ 1000) (m2 : n2 ≤ 1000) :
    Calls Try.prog 22 #[.agg #[.slice A0 n0 c0, .slice A1 n1 c1, .slice A2 n2 c2], .agg #[.int .i64 k, .int .u32 a, .int .u32 b], .agg #[.int .i64 rk, .int .u32 rv]] w (AllowPost w (allowS st k a b (rk, rv))) := by
  have HS := Lib.hid h
  have HLL := Lib.hid hl
  have l0 := (((Blk.new w 25 [.slice A0 n0 c0, .slice A1 n1 c1, .slice A2 n2 c2]).ext ((Ext.refl _).alloc (.cells #[.int .i64 k, .int .u32 a, .int .u32 b] 38))).ext ((Ext.refl _).alloc (.cells #[.int .i64 rk, .int .u32 rv] 34))).ext ((Ext.refl _).alloc (.cells #[.slice none 0 0, .slice none 0 0, .slice none 0 0] 25))
  have l1 := ((Blk.new (w.alloc (.cells #[.slice A0 n0 c0, .slice A1 n1 c1, .slice A2 n2 c2] 25)) 38 [.int .i64 k, .int .u32 a, .int .u32 b]).ext ((Ext.refl _).alloc (.cells #[.int .i64 rk, .int .u32 rv] 34))).ext ((Ext.refl _).alloc (.cells #[.slice none 0 0, .slice none 0 0, .slice none 0 0] 25))
  have l2 := (Blk.new ((w.alloc (.cells #[.slice A0 n0 c0, .slice A1 n1 c1, .slice A2 n2 c2] 25)).alloc (.cells #[.int .i64 k, .int .u32 a, .int .u32 b] 38)) 34 [.int .i64 rk, .int .u32 rv]).ext ((Ext.refl _).alloc (.cells #[.slice none 0 0, .slice none 0 0, .slice none 0 0] 25))
  have l3 := Blk.new (((w.alloc (.cells #[.slice A0 n0 c0, .slice A1 n1 c1, .slice A2 n2 c2] 25)).alloc (.cells #[.int .i64 k, .int .u32 a, .int .u32 b] 38)).alloc (.cells #[.int .i64 rk, .int .u32 rv] 34)) 25 [.slice none 0 0, .slice none 0 0, .slice none 0 0]
  simp only [World.size_alloc] at l1 l2 l3
  have K0 := Lib.hid l0
  have K1 := Lib.hid l1
  have K2 := Lib.hid l2
  have K3 := Lib.hid l3
  have X0 := Lib.hid (((((Ext.refl w).alloc (.cells #[.slice A0 n0 c0, .slice A1 n1 c1, .slice A2 n2 c2] 25)).alloc (.cells #[.int .i64 k, .int .u32 a, .int .u32 b] 38)).alloc (.cells #[.int .i64 rk, .int .u32 rv] 34)).alloc (.cells #[.slice none 0 0, .slice none 0 0, .slice none 0 0] 25))
  obtain ⟨r, hr⟩ : ∃ r, allowS st k a b (rk, rv) = r := ⟨_, rfl⟩
  rw [hr]
  clear l0 l1 l2 l3 h hl
  go_enter Try.func22, Try.ntmps22
  go_upto_region 1 with fail
  generalize ((((w.alloc (.cells #[.slice A0 n0 c0, .slice A1 n1 c1, .slice A2 n2 c2] 25)).alloc (.cells #[.int .i64 k, .int .u32 a, .int .u32 b] 38)).alloc (.cells #[.int .i64 rk, .int .u32 rv] 34)).alloc (.cells #[.slice none 0 0, .slice none 0 0, .slice none 0 0] 25)) = W0 at *
  have s3 : w.heap.size + 1 + 1 + 1 < W0.heap.size := K3.out.lt
  obtain ⟨kd, hkd⟩ : ∃ x, (decide (1 ≤ k) && decide (k ≤ 8)) = x := ⟨_, rfl⟩
  have HKd := Lib.hid (kind_ok k W0)
  rw [hkd] at HKd
  have HCl := Lib.hid (fun (W : World) (x : Ext W0 W) => cloned_ok W A0 A1 A2 n0 n1 n2 c0 c1 c2 st (HS.out.ext (X0.out.trans x)) HLL.out (by omega) (by omega) (by omega))
  have y10 : W0.cell? ⟨w.heap.size + 1, 0, none⟩ = some (.int .i64 k) := K1.out.cell 0
  go_wp2_with fail
  refine HKd.out.mono ?_
  rintro e w' ⟨rfl, rfl⟩
  cases kd
  · have HE : Hid ((st, false) = r) := Lib.hid (by rw [← hr]; unfold allowS; rw [if_pos hkd])
    clear hr
    have y00 : W0.cell? ⟨w.heap.size, 0, none⟩ = some (.slice A0 n0 c0) := K0.out.cell 0
    have y01 : W0.cell? ⟨w.heap.size, 1, none⟩ = some (.slice A1 n1 c1) := K0.out.cell 1
    have y02 : W0.cell? ⟨w.heap.size, 2, none⟩ = some (.slice A2 n2 c2) := K0.out.cell 2
    go_wp2_with fail
    refine (HCl.out W0 (Ext.refl _)).mono ?_
    rintro e w1 ⟨qv, sv, mv, rfl, x1, pt⟩
    obtain ⟨B0, B1, B2, d0, d1, d2, rfl, rfl, rfl, -⟩ := pt.view
    have PT := Lib.hid pt
    have X1 := Lib.hid (X0.out.trans x1)
    have K3' := Lib.hid (K3.out.ext x1)
    clear x1 pt y00 y01 y02 y10
    have y30 : w1.cell? ⟨w.heap.size + 1 + 1 + 1, 0, none⟩ = some (.slice none 0 0) := K3'.out.cell 0
    have z30 : w1.frozen? ⟨w.heap.size + 1 + 1 + 1, 0, none⟩ = false := K3'.out.frozen 0
    have y31 : w1.cell? ⟨w.heap.size + 1 + 1 + 1, 1, none⟩ = some (.slice none 0 0) := K3'.out.cell 1
    have z31 : w1.frozen? ⟨w.heap.size + 1 + 1 + 1, 1, none⟩ = false := K3'.out.frozen 1
    have y32 : w1.cell? ⟨w.heap.size + 1 + 1 + 1, 2, none⟩ = some (.slice none 0 0) := K3'.out.cell 2
    have z32 : w1.frozen? ⟨w.heap.size + 1 + 1 + 1, 2, none⟩ = false := K3'.out.frozen 2
    go_wp2_with fail
    have hb7 := ((K3'.out.set 0 (.slice B0 st.q.length d0)).set 1 (.slice B1 st.s.length d1)).set 2 (.slice B2 st.m.length d2)
    have X7 : Ext w (((w1.setCell ⟨w.heap.size + 1 + 1 + 1, 0, none⟩ (.slice B0 st.q.length d0)).setCell ⟨w.heap.size + 1 + 1 + 1, 1, none⟩ (.slice B1 st.s.length d1)).setCell ⟨w.heap.size + 1 + 1 + 1, 2, none⟩ (.slice B2 st.m.length d2)) := ((X1.out.setCell (p := ⟨w.heap.size + 1 + 1 + 1, 0, none⟩) (by show w.heap.size ≤ w.heap.size + 1 + 1 + 1; omega) _).setCell (p := ⟨w.heap.size + 1 + 1 + 1, 1, none⟩) (by show w.heap.size ≤ w.heap.size + 1 + 1 + 1; omega) _).setCell (p := ⟨w.heap.size + 1 + 1 + 1, 2, none⟩) (by show w.heap.size ≤ w.heap.size + 1 + 1 + 1; omega) _
    have f7 : Fr (fun q => q = w.heap.size + 1 + 1 + 1) w1 (((w1.setCell ⟨w.heap.size + 1 + 1 + 1, 0, none⟩ (.slice B0 st.q.length d0)).setCell ⟨w.heap.size + 1 + 1 + 1, 1, none⟩ (.slice B1 st.s.length d1)).setCell ⟨w.heap.size + 1 + 1 + 1, 2, none⟩ (.slice B2 st.m.length d2)) := Fr.setCell (S := fun q => q = w.heap.size + 1 + 1 + 1) (p := ⟨w.heap.size + 1 + 1 + 1, 2, none⟩) (Fr.setCell (S := fun q => q = w.heap.size + 1 + 1 + 1) (p := ⟨w.heap.size + 1 + 1 + 1, 1, none⟩) (Fr.setCell (S := fun q => q = w.heap.size + 1 + 1 + 1) (p := ⟨w.heap.size + 1 + 1 + 1, 0, none⟩) (Fr.refl _ _) (Or.inl rfl) _) (Or.inl rfl) _) (Or.inl rfl) _
    have S7 : StAt (((w1.setCell ⟨w.heap.size + 1 + 1 + 1, 0, none⟩ (.slice B0 st.q.length d0)).setCell ⟨w.heap.size + 1 + 1 + 1, 1, none⟩ (.slice B1 st.s.length d1)).setCell ⟨w.heap.size + 1 + 1 + 1, 2, none⟩ (.slice B2 st.m.length d2)) B0 B1 B2 st := (parts_st PT.out).fr f7 (fun ad e hn => ((parts_st PT.out).far K3'.out slices_no).1 ad e hn) (fun ad e hn => ((parts_st PT.out).far K3'.out slices_no).2.1 ad e hn) (fun ad e hn => ((parts_st PT.out).far K3'.out slices_no).2.2 ad e hn)
    clear y30 y31 y32 z30 z31 z32
    generalize (((w1.setCell ⟨w.heap.size + 1 + 1 + 1, 0, none⟩ (.slice B0 st.q.length d0)).setCell ⟨w.heap.size + 1 + 1 + 1, 1, none⟩ (.slice B1 st.s.length d1)).setCell ⟨w.heap.size + 1 + 1 + 1, 2, none⟩ (.slice B2 st.m.length d2)) = W7 at *
    have q0 : W7.cell? ⟨w.heap.size + 1 + 1 + 1, 0, none⟩ = some (.slice B0 st.q.length d0) := hb7.cell 0
    have q1 : W7.cell? ⟨w.heap.size + 1 + 1 + 1, 1, none⟩ = some (.slice B1 st.s.length d1) := hb7.cell 1
    have q2 : W7.cell? ⟨w.heap.size + 1 + 1 + 1, 2, none⟩ = some (.slice B2 st.m.length d2) := hb7.cell 2
    exact bodyPost_ret (v := .tuple #[.agg #[.slice B0 st.q.length d0, .slice B1 st.s.length d1, .slice B2 st.m.length d2], .bool false]) (by simp [results, Try.results22, go_sem, q0, q1, q2]) rfl (by rw [← HE.out]; exact ⟨_, _, _, _, _, _, rfl, S7, X7⟩)
  have HA := Lib.hid (apply_ok W0 A0 A1 A2 n0 n1 n2 c0 c1 c2 st k a b (HS.out.ext X0.out) HLL.out m0 m1 m2)
  have HE0 : Hid ((if (rk, rv) = (doS st k a b).2 then ((doS st k a b).1, true) else (st, decide ((rk, rv) = ((5, 0) : Rs)))) = r) := Lib.hid (by rw [← hr]; unfold allowS; rw [hkd]; rfl)
  clear hr
  generalize (doS st k a b).1 = Z at *
  generalize (doS st k a b).2 = p at *
  obtain ⟨p0, p1⟩ := p
  have heq := fun W => eq_res rk rv p0 p1 W
  have y00 : W0.cell? ⟨w.heap.size, 0, none⟩ = some (.slice A0 n0 c0) := K0.out.cell 0
  have y01 : W0.cell? ⟨w.heap.size, 1, none⟩ = some (.slice A1 n1 c1) := K0.out.cell 1
  have y02 : W0.cell? ⟨w.heap.size, 2, none⟩ = some (.slice A2 n2 c2) := K0.out.cell 2
  have y10' : W0.cell? ⟨w.heap.size + 1, 0, none⟩ = some (.int .i64 k) := K1.out.cell 0
  have y11 : W0.cell? ⟨w.heap.size + 1, 1, none⟩ = some (.int .u32 a) := K1.out.cell 1
  have y12 : W0.cell? ⟨w.heap.size + 1, 2, none⟩ = some (.int .u32 b) := K1.out.cell 2
  go_wp2_with fail
  refine HA.out.mono ?_
  rintro e w1 ⟨B0, B1, B2, d0, d1, d2, rfl, S1, x1⟩
  have SZ := Lib.hid S1
  have hs1 : w.heap.size + 1 + 1 + 1 < w1.heap.size := Nat.lt_of_lt_of_le s3 x1.size
  have X1 := Lib.hid x1
  have e1 := ((Ext.refl w1).alloc (.cells #[.slice B0 Z.q.length d0, .slice B1 Z.s.length d1, .slice B2 Z.m.length d2] 25)).alloc (.cells #[.int .i64 p0, .int .u32 p1] 34)
  have K4 := Lib.hid ((Blk.new w1 25 [.slice B0 Z.q.length d0, .slice B1 Z.s.length d1, .slice B2 Z.m.length d2]).ext ((Ext.refl _).alloc (.cells #[.int .i64 p0, .int .u32 p1] 34)))
  have k2' := K2.out.ext (x1.trans e1)
  have K3' := Lib.hid (K3.out.ext (x1.trans e1))
  have X2 := Lib.hid ((X0.out.trans x1).trans e1)
  have E1 := Lib.hid (x1.trans e1)
  have K5 := Lib.hid (Blk.new (w1.alloc (.cells #[.slice B0 Z.q.length d0, .slice B1 Z.s.length d1, .slice B2 Z.m.length d2] 25)) 34 [.int .i64 p0, .int .u32 p1])
  rw [show (w1.alloc (.cells #[.slice B0 Z.q.length d0, .slice B1 Z.s.length d1, .slice B2 Z.m.length d2] 25)).heap.size = w1.heap.size + 1 by simp] at K5
  have K2' := Lib.hid k2'
  have K0' := Lib.hid (K0.out.ext E1.out)
  have SZ2 := Lib.hid (SZ.out.ext e1)
  clear x1 y00 y01 y02 y10 y10' y11 y12 HA HKd S1 k2' e1 SZ X1
  go_upto_region 4 with fail
  generalize (w1.alloc (.cells #[.slice B0 Z.q.length d0, .slice B1 Z.s.length d1, .slice B2 Z.m.length d2] 25)).alloc (.cells #[.int .i64 p0, .int .u32 p1] 34) = W2 at *
  have y20 : W2.cell? ⟨w.heap.size + 1 + 1, 0, none⟩ = some (.int .i64 rk) := K2'.out.cell 0
  have y21 : W2.cell? ⟨w.heap.size + 1 + 1, 1, none⟩ = some (.int .u32 rv) := K2'.out.cell 1
  have g0 : W2.cell? ⟨w1.heap.size + 1, 0, none⟩ = some (.int .i64 p0) := K5.out.cell 0
  have g1 : W2.cell? ⟨w1.heap.size + 1, 1, none⟩ = some (.int .u32 p1) := K5.out.cell 1
  obtain ⟨q, hq⟩ : ∃ q, decide ((rk, rv) = (p0, p1)) = q := ⟨_, rfl⟩
  rw [hq] at heq
  cases q
  · have HE1 : Hid ((st, decide ((rk, rv) = ((5, 0) : Rs))) = r) := Lib.hid (by rw [← HE0.out, if_neg (of_decide_eq_false hq)])
    obtain ⟨okb, hq2⟩ : ∃ q, decide ((rk, rv) = ((5, 0) : Rs)) = q := ⟨_, rfl⟩
    have heq2 := fun W => eq_res rk rv 5 0 W
    have e5 : decide ((rk, rv) = ((5 : Int), (0 : Int))) = okb := hq2
    rw [e5] at heq2
    rw [hq2] at HE1
    have HE := HE1
    clear hq hq2 e5 HE1 HE0
    have hW2 : w.heap.size + 1 + 1 + 1 < W2.heap.size := K3'.out.lt
    go_upto_region 7 with fail
    have K6 := Lib.hid (Blk.new W2 34 [.int .i64 5, .int .u32 0])
    have E3 := Lib.hid (E1.out.alloc (.cells #[.int .i64 5, .int .u32 0] 34))
    have X3 := Lib.hid (X2.out.alloc (.cells #[.int .i64 5, .int .u32 0] 34))
    have M0 := Lib.hid (K0'.out.ext ((Ext.refl W2).alloc (.cells #[.int .i64 5, .int .u32 0] 34)))
    have M2 := Lib.hid (K2'.out.ext ((Ext.refl W2).alloc (.cells #[.int .i64 5, .int .u32 0] 34)))
    have M3 := Lib.hid (K3'.out.ext ((Ext.refl W2).alloc (.cells #[.int .i64 5, .int .u32 0] 34)))
    have hW3 : w.heap.size + 1 + 1 + 1 < (W2.alloc (.cells #[.int .i64 5, .int .u32 0] 34)).heap.size := by simp; omega
    generalize hgf : W2.heap.size = gf at *
    generalize W2.alloc (.cells #[.int .i64 5, .int .u32 0] 34) = W3 at *
    have HSf : Hid (∀ W, Ext W3 W → W.cell? ⟨w.heap.size, 0, none⟩ = some (.slice A0 n0 c0) ∧ W.cell? ⟨w.heap.size, 1, none⟩ = some (.slice A1 n1 c1) ∧ W.cell? ⟨w.heap.size, 2, none⟩ = some (.slice A2 n2 c2) ∧ W.cell? ⟨w.heap.size + 1 + 1, 0, none⟩ = some (.int .i64 rk) ∧ W.cell? ⟨w.heap.size + 1 + 1, 1, none⟩ = some (.int .u32 rv) ∧ W.cell? ⟨gf, 0, none⟩ = some (.int .i64 5) ∧ W.cell? ⟨gf, 1, none⟩ = some (.int .u32 0)) := Lib.hid (fun W x => ⟨(M0.out.ext x).cell 0, (M0.out.ext x).cell 1, (M0.out.ext x).cell 2, (M2.out.ext x).cell 0, (M2.out.ext x).cell 1, (K6.out.ext x).cell 0, (K6.out.ext x).cell 1⟩)
    have HS2 : Hid (∀ (W : World) (u0 u1 u2 : Value), Ext W3 W → (((W.setCell ⟨w.heap.size + 1 + 1 + 1, 0, none⟩ u0).setCell ⟨w.heap.size + 1 + 1 + 1, 1, none⟩ u1).setCell ⟨w.heap.size + 1 + 1 + 1, 2, none⟩ u2).cell? ⟨w.heap.size, 0, none⟩ = some (.slice A0 n0 c0) ∧ (((W.setCell ⟨w.heap.size + 1 + 1 + 1, 0, none⟩ u0).setCell ⟨w.heap.size + 1 + 1 + 1, 1, none⟩ u1).setCell ⟨w.heap.size + 1 + 1 + 1, 2, none⟩ u2).cell? ⟨w.heap.size, 1, none⟩ = some (.slice A1 n1 c1) ∧ (((W.setCell ⟨w.heap.size + 1 + 1 + 1, 0, none⟩ u0).setCell ⟨w.heap.size + 1 + 1 + 1, 1, none⟩ u1).setCell ⟨w.heap.size + 1 + 1 + 1, 2, none⟩ u2).cell? ⟨w.heap.size, 2, none⟩ = some (.slice A2 n2 c2) ∧ (((W.setCell ⟨w.heap.size + 1 + 1 + 1, 0, none⟩ u0).setCell ⟨w.heap.size + 1 + 1 + 1, 1, none⟩ u1).setCell ⟨w.heap.size + 1 + 1 + 1, 2, none⟩ u2).cell? ⟨w.heap.size + 1 + 1, 0, none⟩ = some (.int .i64 rk) ∧ (((W.setCell ⟨w.heap.size + 1 + 1 + 1, 0, none⟩ u0).setCell ⟨w.heap.size + 1 + 1 + 1, 1, none⟩ u1).setCell ⟨w.heap.size + 1 + 1 + 1, 2, none⟩ u2).cell? ⟨w.heap.size + 1 + 1, 1, none⟩ = some (.int .u32 rv) ∧ (((W.setCell ⟨w.heap.size + 1 + 1 + 1, 0, none⟩ u0).setCell ⟨w.heap.size + 1 + 1 + 1, 1, none⟩ u1).setCell ⟨w.heap.size + 1 + 1 + 1, 2, none⟩ u2).cell? ⟨gf, 0, none⟩ = some (.int .i64 5) ∧ (((W.setCell ⟨w.heap.size + 1 + 1 + 1, 0, none⟩ u0).setCell ⟨w.heap.size + 1 + 1 + 1, 1, none⟩ u1).setCell ⟨w.heap.size + 1 + 1 + 1, 2, none⟩ u2).cell? ⟨gf, 1, none⟩ = some (.int .u32 0)) := Lib.hid (fun W u0 u1 u2 x => by
      have n0 : ¬ w.heap.size = w.heap.size + 1 + 1 + 1 := by omega
      have n2 : ¬ w.heap.size + 1 + 1 = w.heap.size + 1 + 1 + 1 := by omega
      have n6 : ¬ gf = w.heap.size + 1 + 1 + 1 := by omega
      have m0 := (((M0.out.ext x).far (p := ⟨w.heap.size + 1 + 1 + 1, 0, none⟩) n0 u0).far (p := ⟨w.heap.size + 1 + 1 + 1, 1, none⟩) n0 u1).far (p := ⟨w.heap.size + 1 + 1 + 1, 2, none⟩) n0 u2
      have m2 := (((M2.out.ext x).far (p := ⟨w.heap.size + 1 + 1 + 1, 0, none⟩) n2 u0).far (p := ⟨w.heap.size + 1 + 1 + 1, 1, none⟩) n2 u1).far (p := ⟨w.heap.size + 1 + 1 + 1, 2, none⟩) n2 u2
      have m6 := (((K6.out.ext x).far (p := ⟨w.heap.size + 1 + 1 + 1, 0, none⟩) n6 u0).far (p := ⟨w.heap.size + 1 + 1 + 1, 1, none⟩) n6 u1).far (p := ⟨w.heap.size + 1 + 1 + 1, 2, none⟩) n6 u2
      exact ⟨m0.cell 0, m0.cell 1, m0.cell 2, m2.cell 0, m2.cell 1, m6.cell 0, m6.cell 1⟩)
    have xt : Ext W3 W3.drew := (Ext.refl W3).drew
    clear y20 y21 g0 g1
    go_region_held3 (fun W => W.cell? ⟨w.heap.size, 0, none⟩ = some (.slice A0 n0 c0) ∧ W.cell? ⟨w.heap.size, 1, none⟩ = some (.slice A1 n1 c1) ∧ W.cell? ⟨w.heap.size, 2, none⟩ = some (.slice A2 n2 c2) ∧ W.cell? ⟨w.heap.size + 1 + 1, 0, none⟩ = some (.int .i64 rk) ∧ W.cell? ⟨w.heap.size + 1 + 1, 1, none⟩ = some (.int .u32 rv) ∧ W.cell? ⟨gf, 0, none⟩ = some (.int .i64 5) ∧ W.cell? ⟨gf, 1, none⟩ = some (.int .u32 0)) (first | exact HSf.out _ xt | exact HS2.out _ _ _ _ xt | go_keep) (first
      | (go_at_call 57; refine (HCl.out _ (E3.out.trans xt)).mono ?_; rintro e w9 ⟨qv, sv, mv, rfl, x9, pt⟩; obtain ⟨D0, D1, D2, f0, f1, f2, rfl, rfl, rfl, -⟩ := pt.view; have PT := Lib.hid pt; replace xt := xt.trans x9; have K9 := Lib.hid (M3.out.ext xt); have y30 : w9.cell? ⟨w.heap.size + 1 + 1 + 1, 0, none⟩ = some (.slice none 0 0) := K9.out.cell 0; have y31 : w9.cell? ⟨w.heap.size + 1 + 1 + 1, 1, none⟩ = some (.slice none 0 0) := K9.out.cell 1; have y32 : w9.cell? ⟨w.heap.size + 1 + 1 + 1, 2, none⟩ = some (.slice none 0 0) := K9.out.cell 2; have z30 : w9.frozen? ⟨w.heap.size + 1 + 1 + 1, 0, none⟩ = false := K9.out.frozen 0; have z31 : w9.frozen? ⟨w.heap.size + 1 + 1 + 1, 1, none⟩ = false := K9.out.frozen 1; have z32 : w9.frozen? ⟨w.heap.size + 1 + 1 + 1, 2, none⟩ = false := K9.out.frozen 2; clear x9 pt))
    all_goals
      have X9 := Lib.hid (X3.out.trans xt)
      go_wp2_with fail
      have hb7 := ((K9.out.set 0 (.slice D0 st.q.length f0)).set 1 (.slice D1 st.s.length f1)).set 2 (.slice D2 st.m.length f2)
      have X7 : Ext w (((w9.setCell ⟨w.heap.size + 1 + 1 + 1, 0, none⟩ (.slice D0 st.q.length f0)).setCell ⟨w.heap.size + 1 + 1 + 1, 1, none⟩ (.slice D1 st.s.length f1)).setCell ⟨w.heap.size + 1 + 1 + 1, 2, none⟩ (.slice D2 st.m.length f2)) := ((X9.out.setCell (p := ⟨w.heap.size + 1 + 1 + 1, 0, none⟩) (by show w.heap.size ≤ w.heap.size + 1 + 1 + 1; omega) _).setCell (p := ⟨w.heap.size + 1 + 1 + 1, 1, none⟩) (by show w.heap.size ≤ w.heap.size + 1 + 1 + 1; omega) _).setCell (p := ⟨w.heap.size + 1 + 1 + 1, 2, none⟩) (by show w.heap.size ≤ w.heap.size + 1 + 1 + 1; omega) _
      have f7 : Fr (fun q => q = w.heap.size + 1 + 1 + 1) w9 (((w9.setCell ⟨w.heap.size + 1 + 1 + 1, 0, none⟩ (.slice D0 st.q.length f0)).setCell ⟨w.heap.size + 1 + 1 + 1, 1, none⟩ (.slice D1 st.s.length f1)).setCell ⟨w.heap.size + 1 + 1 + 1, 2, none⟩ (.slice D2 st.m.length f2)) := Fr.setCell (S := fun q => q = w.heap.size + 1 + 1 + 1) (p := ⟨w.heap.size + 1 + 1 + 1, 2, none⟩) (Fr.setCell (S := fun q => q = w.heap.size + 1 + 1 + 1) (p := ⟨w.heap.size + 1 + 1 + 1, 1, none⟩) (Fr.setCell (S := fun q => q = w.heap.size + 1 + 1 + 1) (p := ⟨w.heap.size + 1 + 1 + 1, 0, none⟩) (Fr.refl _ _) (Or.inl rfl) _) (Or.inl rfl) _) (Or.inl rfl) _
      have S7 : StAt (((w9.setCell ⟨w.heap.size + 1 + 1 + 1, 0, none⟩ (.slice D0 st.q.length f0)).setCell ⟨w.heap.size + 1 + 1 + 1, 1, none⟩ (.slice D1 st.s.length f1)).setCell ⟨w.heap.size + 1 + 1 + 1, 2, none⟩ (.slice D2 st.m.length f2)) D0 D1 D2 st := (parts_st PT.out).fr f7 (fun ad e hn => ((parts_st PT.out).far K9.out slices_no).1 ad e hn) (fun ad e hn => ((parts_st PT.out).far K9.out slices_no).2.1 ad e hn) (fun ad e hn => ((parts_st PT.out).far K9.out slices_no).2.2 ad e hn)
      clear y30 y31 y32 z30 z31 z32
      generalize (((w9.setCell ⟨w.heap.size + 1 + 1 + 1, 0, none⟩ (.slice D0 st.q.length f0)).setCell ⟨w.heap.size + 1 + 1 + 1, 1, none⟩ (.slice D1 st.s.length f1)).setCell ⟨w.heap.size + 1 + 1 + 1, 2, none⟩ (.slice D2 st.m.length f2)) = W7 at *
      have q0 : W7.cell? ⟨w.heap.size + 1 + 1 + 1, 0, none⟩ = some (.slice D0 st.q.length f0) := hb7.cell 0
      have q1 : W7.cell? ⟨w.heap.size + 1 + 1 + 1, 1, none⟩ = some (.slice D1 st.s.length f1) := hb7.cell 1
      have q2 : W7.cell? ⟨w.heap.size + 1 + 1 + 1, 2, none⟩ = some (.slice D2 st.m.length f2) := hb7.cell 2
      exact bodyPost_ret (v := .tuple #[.agg #[.slice D0 st.q.length f0, .slice D1 st.s.length f1, .slice D2 st.m.length f2], .bool okb]) (by simp [results, Try.results22, go_sem, q0, q1, q2]) rfl (by rw [← HE.out]; exact ⟨_, _, _, _, _, _, rfl, S7, X7⟩)
  · have HE : Hid ((Z, true) = r) := Lib.hid (by rw [← HE0.out, if_pos (of_decide_eq_true hq)])
    have n0 : W2.cell? ⟨w1.heap.size, 0, none⟩ = some (.slice B0 Z.q.length d0) := K4.out.cell 0
    have n1 : W2.cell? ⟨w1.heap.size, 1, none⟩ = some (.slice B1 Z.s.length d1) := K4.out.cell 1
    have n2 : W2.cell? ⟨w1.heap.size, 2, none⟩ = some (.slice B2 Z.m.length d2) := K4.out.cell 2
    have y30 : W2.cell? ⟨w.heap.size + 1 + 1 + 1, 0, none⟩ = some (.slice none 0 0) := K3'.out.cell 0
    have z30 : W2.frozen? ⟨w.heap.size + 1 + 1 + 1, 0, none⟩ = false := K3'.out.frozen 0
    have y31 : W2.cell? ⟨w.heap.size + 1 + 1 + 1, 1, none⟩ = some (.slice none 0 0) := K3'.out.cell 1
    have z31 : W2.frozen? ⟨w.heap.size + 1 + 1 + 1, 1, none⟩ = false := K3'.out.frozen 1
    have y32 : W2.cell? ⟨w.heap.size + 1 + 1 + 1, 2, none⟩ = some (.slice none 0 0) := K3'.out.cell 2
    have z32 : W2.frozen? ⟨w.heap.size + 1 + 1 + 1, 2, none⟩ = false := K3'.out.frozen 2
    go_wp2_with fail
    have hb7 := ((K3'.out.set 0 (.slice B0 Z.q.length d0)).set 1 (.slice B1 Z.s.length d1)).set 2 (.slice B2 Z.m.length d2)
    have X7 : Ext w (((W2.setCell ⟨w.heap.size + 1 + 1 + 1, 0, none⟩ (.slice B0 Z.q.length d0)).setCell ⟨w.heap.size + 1 + 1 + 1, 1, none⟩ (.slice B1 Z.s.length d1)).setCell ⟨w.heap.size + 1 + 1 + 1, 2, none⟩ (.slice B2 Z.m.length d2)) := ((X2.out.setCell (p := ⟨w.heap.size + 1 + 1 + 1, 0, none⟩) (by show w.heap.size ≤ w.heap.size + 1 + 1 + 1; omega) _).setCell (p := ⟨w.heap.size + 1 + 1 + 1, 1, none⟩) (by show w.heap.size ≤ w.heap.size + 1 + 1 + 1; omega) _).setCell (p := ⟨w.heap.size + 1 + 1 + 1, 2, none⟩) (by show w.heap.size ≤ w.heap.size + 1 + 1 + 1; omega) _
    have f7 : Fr (fun q => q = w.heap.size + 1 + 1 + 1) W2 (((W2.setCell ⟨w.heap.size + 1 + 1 + 1, 0, none⟩ (.slice B0 Z.q.length d0)).setCell ⟨w.heap.size + 1 + 1 + 1, 1, none⟩ (.slice B1 Z.s.length d1)).setCell ⟨w.heap.size + 1 + 1 + 1, 2, none⟩ (.slice B2 Z.m.length d2)) := Fr.setCell (S := fun q => q = w.heap.size + 1 + 1 + 1) (p := ⟨w.heap.size + 1 + 1 + 1, 2, none⟩) (Fr.setCell (S := fun q => q = w.heap.size + 1 + 1 + 1) (p := ⟨w.heap.size + 1 + 1 + 1, 1, none⟩) (Fr.setCell (S := fun q => q = w.heap.size + 1 + 1 + 1) (p := ⟨w.heap.size + 1 + 1 + 1, 0, none⟩) (Fr.refl _ _) (Or.inl rfl) _) (Or.inl rfl) _) (Or.inl rfl) _
    have S7 : StAt (((W2.setCell ⟨w.heap.size + 1 + 1 + 1, 0, none⟩ (.slice B0 Z.q.length d0)).setCell ⟨w.heap.size + 1 + 1 + 1, 1, none⟩ (.slice B1 Z.s.length d1)).setCell ⟨w.heap.size + 1 + 1 + 1, 2, none⟩ (.slice B2 Z.m.length d2)) B0 B1 B2 Z := (SZ2.out).fr f7 (fun ad e hn => ((SZ2.out).far K3'.out slices_no).1 ad e hn) (fun ad e hn => ((SZ2.out).far K3'.out slices_no).2.1 ad e hn) (fun ad e hn => ((SZ2.out).far K3'.out slices_no).2.2 ad e hn)
    clear y30 y31 y32 z30 z31 z32
    generalize (((W2.setCell ⟨w.heap.size + 1 + 1 + 1, 0, none⟩ (.slice B0 Z.q.length d0)).setCell ⟨w.heap.size + 1 + 1 + 1, 1, none⟩ (.slice B1 Z.s.length d1)).setCell ⟨w.heap.size + 1 + 1 + 1, 2, none⟩ (.slice B2 Z.m.length d2)) = W7 at *
    have q0 : W7.cell? ⟨w.heap.size + 1 + 1 + 1, 0, none⟩ = some (.slice B0 Z.q.length d0) := hb7.cell 0
    have q1 : W7.cell? ⟨w.heap.size + 1 + 1 + 1, 1, none⟩ = some (.slice B1 Z.s.length d1) := hb7.cell 1
    have q2 : W7.cell? ⟨w.heap.size + 1 + 1 + 1, 2, none⟩ = some (.slice B2 Z.m.length d2) := hb7.cell 2
    exact bodyPost_ret (v := .tuple #[.agg #[.slice B0 Z.q.length d0, .slice B1 Z.s.length d1, .slice B2 Z.m.length d2], .bool true]) (by simp [results, Try.results22, go_sem, q0, q1, q2]) rfl (by rw [← HE.out]; exact ⟨_, _, _, _, _, _, rfl, S7, X7⟩)
end Go.Proofs.Ytiggailjdnenpaa
