/- Layer 8: the document's Apply, of the queue and of no kind. Conditions: those that each theorem names. -/
import Derived.Test.YthbngenjcgclgaaMod37
namespace Go.Proofs.Ythbngenjcgclgaa
open Go.ChangeShapes Go.WideShapes Go.ChangeAt Go.RowKit
set_option linter.unusedVariables false
/-- What the document's Apply leaves. -/
def RPost (w : World) (A0 A1 A2 : Option Addr) (n0 n1 n2 : Nat) (st' : Sta) (r : Rs) (e : Ending) (w' : World) : Prop := ∃ (B0 B1 B2 : Option Addr) (d0 d1 d2 : Nat), e = .returned (.tuple #[.agg #[.slice B0 st'.q.length d0, .slice B1 st'.s.length d1, .slice B2 st'.m.length d2], .agg #[.int .i64 r.1, .int .u32 r.2]]) ∧ (st'.q.length ≤ d0 ∧ d0 ≤ 9223372036854775807) ∧ StF w w' A0 A1 A2 n0 n1 n2 B0 B1 B2 st' ∧ (NearP w A0 n0 B0 st'.q.length ∧ NearP w A1 n1 B1 st'.s.length ∧ NearP w A2 n2 B2 st'.m.length) ∧ Ext w w'
theorem four_new (w : World) (u0 u1 u2 : Value) (k a b : Int) :
    let W := ((((w.alloc (.cells #[u0, u1, u2] 25)).alloc (.cells #[.int .i64 k, .int .u32 a, .int .u32 b] 38)).alloc (.cells #[.slice none 0 0, .slice none 0 0, .slice none 0 0] 25)).alloc (.cells #[.int .i64 0, .int .u32 0] 34))
    Blk W w.heap.size 25 [u0, u1, u2] ∧ Blk W (w.heap.size + 1) 38 [.int .i64 k, .int .u32 a, .int .u32 b] ∧ Blk W (w.heap.size + 1 + 1) 25 [.slice none 0 0, .slice none 0 0, .slice none 0 0] ∧ Blk W (w.heap.size + 1 + 1 + 1) 34 [.int .i64 0, .int .u32 0] := by
  intro W
  have l0 := ((((Blk.new w 25 [u0, u1, u2]).ext ((Ext.refl _).alloc (.cells #[.int .i64 k, .int .u32 a, .int .u32 b] 38))).ext ((Ext.refl _).alloc (.cells #[.slice none 0 0, .slice none 0 0, .slice none 0 0] 25))).ext ((Ext.refl _).alloc (.cells #[.int .i64 0, .int .u32 0] 34)))
  have l1 := ((Blk.new (w.alloc (.cells #[u0, u1, u2] 25)) 38 [.int .i64 k, .int .u32 a, .int .u32 b]).ext ((Ext.refl _).alloc (.cells #[.slice none 0 0, .slice none 0 0, .slice none 0 0] 25))).ext ((Ext.refl _).alloc (.cells #[.int .i64 0, .int .u32 0] 34))
  have l2 := (Blk.new ((w.alloc (.cells #[u0, u1, u2] 25)).alloc (.cells #[.int .i64 k, .int .u32 a, .int .u32 b] 38)) 25 [.slice none 0 0, .slice none 0 0, .slice none 0 0]).ext ((Ext.refl _).alloc (.cells #[.int .i64 0, .int .u32 0] 34))
  have l3 := Blk.new (((w.alloc (.cells #[u0, u1, u2] 25)).alloc (.cells #[.int .i64 k, .int .u32 a, .int .u32 b] 38)).alloc (.cells #[.slice none 0 0, .slice none 0 0, .slice none 0 0] 25)) 34 [.int .i64 0, .int .u32 0]
  simp only [World.size_alloc] at l1 l2 l3
  exact ⟨l0, l1, l2, l3⟩
/-- The world behind the last stores. -/
def finW (W : World) (g : Nat) (s : Option (Nat × Value)) (u0 u1 u2 : Value) (r0 r1 : Int) : World :=
  (((((match s with | none => W | some (i, u) => W.setCell ⟨g, i, none⟩ u).setCell ⟨g + 1 + 1, 0, none⟩ u0).setCell ⟨g + 1 + 1, 1, none⟩ u1).setCell ⟨g + 1 + 1, 2, none⟩ u2).setCell ⟨g + 1 + 1 + 1, 0, none⟩ (.int .i64 r0)).setCell ⟨g + 1 + 1 + 1, 1, none⟩ (.int .u32 r1)
theorem fin_ret (W : World) (g : Nat) (s : Option (Nat × Value)) (u0 u1 u2 : Value) (r0 r1 : Int) (h2 : Blk W (g + 1 + 1) 25 [.slice none 0 0, .slice none 0 0, .slice none 0 0]) (h3 : Blk W (g + 1 + 1 + 1) 34 [.int .i64 0, .int .u32 0]) :
    Fr (fun q => q = g ∨ q = g + 1 + 1 ∨ q = g + 1 + 1 + 1) W (finW W g s u0 u1 u2 r0 r1) ∧
    ((finW W g s u0 u1 u2 r0 r1).cell? ⟨g + 1 + 1, 0, none⟩ = some u0 ∧ (finW W g s u0 u1 u2 r0 r1).cell? ⟨g + 1 + 1, 1, none⟩ = some u1 ∧ (finW W g s u0 u1 u2 r0 r1).cell? ⟨g + 1 + 1, 2, none⟩ = some u2 ∧ (finW W g s u0 u1 u2 r0 r1).cell? ⟨g + 1 + 1 + 1, 0, none⟩ = some (.int .i64 r0) ∧ (finW W g s u0 u1 u2 r0 r1).cell? ⟨g + 1 + 1 + 1, 1, none⟩ = some (.int .u32 r1)) := by
  unfold finW
  obtain ⟨V, hV, f0, v2, v3⟩ : ∃ V, (match s with | none => W | some (i, u) => W.setCell ⟨g, i, none⟩ u) = V ∧ Fr (fun q => q = g ∨ q = g + 1 + 1 ∨ q = g + 1 + 1 + 1) W V ∧ Blk V (g + 1 + 1) 25 [.slice none 0 0, .slice none 0 0, .slice none 0 0] ∧ Blk V (g + 1 + 1 + 1) 34 [.int .i64 0, .int .u32 0] := by
    cases s with
    | none => exact ⟨W, rfl, Fr.refl _ W, h2, h3⟩
    | some p =>
      obtain ⟨i, u⟩ := p
      exact ⟨_, rfl, Fr.setCell (p := ⟨g, i, none⟩) (Fr.refl _ W) (Or.inl (Or.inl rfl)) _, h2.far (p := ⟨g, i, none⟩) (by show g + 1 + 1 ≠ g; omega) _, h3.far (p := ⟨g, i, none⟩) (by show g + 1 + 1 + 1 ≠ g; omega) _⟩
  rw [hV]
  have n23 : g + 1 + 1 ≠ g + 1 + 1 + 1 := by omega
  have n32 : g + 1 + 1 + 1 ≠ g + 1 + 1 := by omega
  have k2 := (((((v2.set 0 u0).set 1 u1).set 2 u2).far (p := ⟨g + 1 + 1 + 1, 0, none⟩) n23 (.int .i64 r0)).far (p := ⟨g + 1 + 1 + 1, 1, none⟩) n23 (.int .u32 r1))
  have k3 := (((((v3.far (p := ⟨g + 1 + 1, 0, none⟩) n32 u0).far (p := ⟨g + 1 + 1, 1, none⟩) n32 u1).far (p := ⟨g + 1 + 1, 2, none⟩) n32 u2).set 0 (.int .i64 r0)).set 1 (.int .u32 r1))
  refine ⟨f0.trans (S' := fun q => q = g ∨ q = g + 1 + 1 ∨ q = g + 1 + 1 + 1) (Fr.setCell (p := ⟨g + 1 + 1 + 1, 1, none⟩) (Fr.setCell (p := ⟨g + 1 + 1 + 1, 0, none⟩) (Fr.setCell (p := ⟨g + 1 + 1, 2, none⟩) (Fr.setCell (p := ⟨g + 1 + 1, 1, none⟩) (Fr.setCell (p := ⟨g + 1 + 1, 0, none⟩) (Fr.refl _ V) (Or.inl (Or.inr (Or.inl rfl))) _) (Or.inl (Or.inr (Or.inl rfl))) _) (Or.inl (Or.inr (Or.inl rfl))) _) (Or.inl (Or.inr (Or.inr rfl))) _) (Or.inl (Or.inr (Or.inr rfl))) _) (fun _ _ h => h), k2.cell 0, k2.cell 1, k2.cell 2, k3.cell 0, k3.cell 1⟩
set_option maxRecDepth 100000 in
set_option maxHeartbeats 4000000 in
theorem rApp0_low (w : World) (A0 A1 A2 : Option Addr) (n0 n1 n2 c0 c1 c2 : Nat) (st : Sta) (a b : Int) (h : StAt w A0 A1 A2 st) (hl : Lens st n0 n1 n2) (m0 : n0 ≤ 1000) (m1 : n1 ≤ 1000) (m2 : n2 ≤ 1000) (hcap : n0 ≤ c0 ∧ c0 ≤ 9223372036854775807) (k : Int) (hk : k < 1) :
    Calls Try.prog 10 #[.agg #[.slice A0 n0 c0, .slice A1 n1 c1, .slice A2 n2 c2], .agg #[.int .i64 k, .int .u32 a, .int .u32 b]] w (RPost w A0 A1 A2 n0 n1 n2 (doS st k a b).1 (doS st k a b).2) := by
  have e0 : doS st k a b = (st, (0, 0)) := doS_0 st k a b (by unfold partK; rw [if_neg (by omega), if_neg (by omega), if_neg (by omega)])
  rw [e0]
  clear e0
  have hk1 : (k == 1) = false := by rw [beq_eq_false_iff_ne]; omega
  have hk2 : (k == 2) = false := by rw [beq_eq_false_iff_ne]; omega
  have hd1 : decide (3 ≤ k) = false := by simp; omega
  have hd2 : decide (6 ≤ k) = false := by simp; omega
  have hd3 : decide (k < 3) = true := by simp; omega
  clear hk
  have HS := Lib.hid h
  have HLL := Lib.hid hl
  have HCP := Lib.hid hcap
  obtain ⟨k0, k1, k2, k3⟩ := four_new w (.slice A0 n0 c0) (.slice A1 n1 c1) (.slice A2 n2 c2) k a b
  have K0 := Lib.hid k0
  have K1 := Lib.hid k1
  have K2 := Lib.hid k2
  have K3 := Lib.hid k3
  have X0 := Lib.hid (((((Ext.refl w).alloc (.cells #[.slice A0 n0 c0, .slice A1 n1 c1, .slice A2 n2 c2] 25)).alloc (.cells #[.int .i64 k, .int .u32 a, .int .u32 b] 38)).alloc (.cells #[.slice none 0 0, .slice none 0 0, .slice none 0 0] 25)).alloc (.cells #[.int .i64 0, .int .u32 0] 34))
  clear h hl k0 k1 k2 k3 hcap
  go_enter Try.func10, Try.ntmps10
  go_upto_region 1 with fail
  generalize ((((w.alloc (.cells #[.slice A0 n0 c0, .slice A1 n1 c1, .slice A2 n2 c2] 25)).alloc (.cells #[.int .i64 k, .int .u32 a, .int .u32 b] 38)).alloc (.cells #[.slice none 0 0, .slice none 0 0, .slice none 0 0] 25)).alloc (.cells #[.int .i64 0, .int .u32 0] 34)) = W0 at *
  have s3 : w.heap.size + 1 + 1 + 1 < W0.heap.size := K3.out.lt
  have e01 : ¬ w.heap.size = w.heap.size + 1 := by omega
  have e02 : ¬ w.heap.size = w.heap.size + 1 + 1 := by omega
  have e03 : ¬ w.heap.size = w.heap.size + 1 + 1 + 1 := by omega
  have e20 : ¬ w.heap.size + 1 + 1 = w.heap.size := by omega
  have e23 : ¬ w.heap.size + 1 + 1 = w.heap.size + 1 + 1 + 1 := by omega
  have e30 : ¬ w.heap.size + 1 + 1 + 1 = w.heap.size := by omega
  have e32 : ¬ w.heap.size + 1 + 1 + 1 = w.heap.size + 1 + 1 := by omega
  have e10 : ¬ w.heap.size + 1 = w.heap.size := by omega
  have y00 : W0.cell? ⟨w.heap.size, 0, none⟩ = some (.slice A0 n0 c0) := (K0.out.ext (Ext.refl W0)).cell 0
  have z00 : W0.frozen? ⟨w.heap.size, 0, none⟩ = false := (K0.out.ext (Ext.refl W0)).frozen 0
  have y01 : W0.cell? ⟨w.heap.size, 1, none⟩ = some (.slice A1 n1 c1) := (K0.out.ext (Ext.refl W0)).cell 1
  have z01 : W0.frozen? ⟨w.heap.size, 1, none⟩ = false := (K0.out.ext (Ext.refl W0)).frozen 1
  have y02 : W0.cell? ⟨w.heap.size, 2, none⟩ = some (.slice A2 n2 c2) := (K0.out.ext (Ext.refl W0)).cell 2
  have z02 : W0.frozen? ⟨w.heap.size, 2, none⟩ = false := (K0.out.ext (Ext.refl W0)).frozen 2
  have y10 : W0.cell? ⟨w.heap.size + 1, 0, none⟩ = some (.int .i64 k) := (K1.out.ext (Ext.refl W0)).cell 0
  have y11 : W0.cell? ⟨w.heap.size + 1, 1, none⟩ = some (.int .u32 a) := (K1.out.ext (Ext.refl W0)).cell 1
  have y12 : W0.cell? ⟨w.heap.size + 1, 2, none⟩ = some (.int .u32 b) := (K1.out.ext (Ext.refl W0)).cell 2
  have y20 : W0.cell? ⟨w.heap.size + 1 + 1, 0, none⟩ = some (.slice none 0 0) := (K2.out.ext (Ext.refl W0)).cell 0
  have z20 : W0.frozen? ⟨w.heap.size + 1 + 1, 0, none⟩ = false := (K2.out.ext (Ext.refl W0)).frozen 0
  have y21 : W0.cell? ⟨w.heap.size + 1 + 1, 1, none⟩ = some (.slice none 0 0) := (K2.out.ext (Ext.refl W0)).cell 1
  have z21 : W0.frozen? ⟨w.heap.size + 1 + 1, 1, none⟩ = false := (K2.out.ext (Ext.refl W0)).frozen 1
  have y22 : W0.cell? ⟨w.heap.size + 1 + 1, 2, none⟩ = some (.slice none 0 0) := (K2.out.ext (Ext.refl W0)).cell 2
  have z22 : W0.frozen? ⟨w.heap.size + 1 + 1, 2, none⟩ = false := (K2.out.ext (Ext.refl W0)).frozen 2
  have y30 : W0.cell? ⟨w.heap.size + 1 + 1 + 1, 0, none⟩ = some (.int .i64 0) := (K3.out.ext (Ext.refl W0)).cell 0
  have z30 : W0.frozen? ⟨w.heap.size + 1 + 1 + 1, 0, none⟩ = false := (K3.out.ext (Ext.refl W0)).frozen 0
  have y31 : W0.cell? ⟨w.heap.size + 1 + 1 + 1, 1, none⟩ = some (.int .u32 0) := (K3.out.ext (Ext.refl W0)).cell 1
  have z31 : W0.frozen? ⟨w.heap.size + 1 + 1 + 1, 1, none⟩ = false := (K3.out.ext (Ext.refl W0)).frozen 1
  go_wp2_with fail
  go_loopw [10] (fun i wr => i = .int .i64 0 ∧ W0 = wr) (fun _ _ => 0)
  case atStart => exact ⟨rfl, rfl⟩
  case round =>
    obtain ⟨rfl, rfl⟩ := hrel
    go_wp2_with fail
    go_loopw [12] (fun i wr => i = .int .i64 0 ∧ W0 = wr) (fun _ _ => 0)
    case atStart => exact ⟨rfl, rfl⟩
    case round =>
      obtain ⟨rfl, rfl⟩ := hrel
      go_wp2_with fail
      have W0L := K2.out.ext (Ext.refl W0)
      have W0M := K3.out.ext (Ext.refl W0)
      have hfin : Fr (fun q => q = w.heap.size ∨ q = w.heap.size + 1 + 1 ∨ q = w.heap.size + 1 + 1 + 1) W0 (((((W0.setCell ⟨w.heap.size + 1 + 1, 0, none⟩ (.slice A0 n0 c0)).setCell ⟨w.heap.size + 1 + 1, 1, none⟩ (.slice A1 n1 c1)).setCell ⟨w.heap.size + 1 + 1, 2, none⟩ (.slice A2 n2 c2)).setCell ⟨w.heap.size + 1 + 1 + 1, 0, none⟩ (.int .i64 0)).setCell ⟨w.heap.size + 1 + 1 + 1, 1, none⟩ (.int .u32 0)) ∧ ((((((W0.setCell ⟨w.heap.size + 1 + 1, 0, none⟩ (.slice A0 n0 c0)).setCell ⟨w.heap.size + 1 + 1, 1, none⟩ (.slice A1 n1 c1)).setCell ⟨w.heap.size + 1 + 1, 2, none⟩ (.slice A2 n2 c2)).setCell ⟨w.heap.size + 1 + 1 + 1, 0, none⟩ (.int .i64 0)).setCell ⟨w.heap.size + 1 + 1 + 1, 1, none⟩ (.int .u32 0)).cell? ⟨w.heap.size + 1 + 1, 0, none⟩ = some (.slice A0 n0 c0) ∧ (((((W0.setCell ⟨w.heap.size + 1 + 1, 0, none⟩ (.slice A0 n0 c0)).setCell ⟨w.heap.size + 1 + 1, 1, none⟩ (.slice A1 n1 c1)).setCell ⟨w.heap.size + 1 + 1, 2, none⟩ (.slice A2 n2 c2)).setCell ⟨w.heap.size + 1 + 1 + 1, 0, none⟩ (.int .i64 0)).setCell ⟨w.heap.size + 1 + 1 + 1, 1, none⟩ (.int .u32 0)).cell? ⟨w.heap.size + 1 + 1, 1, none⟩ = some (.slice A1 n1 c1) ∧ (((((W0.setCell ⟨w.heap.size + 1 + 1, 0, none⟩ (.slice A0 n0 c0)).setCell ⟨w.heap.size + 1 + 1, 1, none⟩ (.slice A1 n1 c1)).setCell ⟨w.heap.size + 1 + 1, 2, none⟩ (.slice A2 n2 c2)).setCell ⟨w.heap.size + 1 + 1 + 1, 0, none⟩ (.int .i64 0)).setCell ⟨w.heap.size + 1 + 1 + 1, 1, none⟩ (.int .u32 0)).cell? ⟨w.heap.size + 1 + 1, 2, none⟩ = some (.slice A2 n2 c2) ∧ (((((W0.setCell ⟨w.heap.size + 1 + 1, 0, none⟩ (.slice A0 n0 c0)).setCell ⟨w.heap.size + 1 + 1, 1, none⟩ (.slice A1 n1 c1)).setCell ⟨w.heap.size + 1 + 1, 2, none⟩ (.slice A2 n2 c2)).setCell ⟨w.heap.size + 1 + 1 + 1, 0, none⟩ (.int .i64 0)).setCell ⟨w.heap.size + 1 + 1 + 1, 1, none⟩ (.int .u32 0)).cell? ⟨w.heap.size + 1 + 1 + 1, 0, none⟩ = some (.int .i64 0) ∧ (((((W0.setCell ⟨w.heap.size + 1 + 1, 0, none⟩ (.slice A0 n0 c0)).setCell ⟨w.heap.size + 1 + 1, 1, none⟩ (.slice A1 n1 c1)).setCell ⟨w.heap.size + 1 + 1, 2, none⟩ (.slice A2 n2 c2)).setCell ⟨w.heap.size + 1 + 1 + 1, 0, none⟩ (.int .i64 0)).setCell ⟨w.heap.size + 1 + 1 + 1, 1, none⟩ (.int .u32 0)).cell? ⟨w.heap.size + 1 + 1 + 1, 1, none⟩ = some (.int .u32 0)) := fin_ret W0 w.heap.size none (.slice A0 n0 c0) (.slice A1 n1 c1) (.slice A2 n2 c2) 0 0 W0L W0M
      have fz := hfin.1
      have hcs := hfin.2
      clear hfin W0L W0M
      have X7 := fz.ext (X0.out.trans (Ext.refl W0)) (fun q e => by rcases e with e | e | e <;> omega)
      have S7 : StF w (((((W0.setCell ⟨w.heap.size + 1 + 1, 0, none⟩ (.slice A0 n0 c0)).setCell ⟨w.heap.size + 1 + 1, 1, none⟩ (.slice A1 n1 c1)).setCell ⟨w.heap.size + 1 + 1, 2, none⟩ (.slice A2 n2 c2)).setCell ⟨w.heap.size + 1 + 1 + 1, 0, none⟩ (.int .i64 0)).setCell ⟨w.heap.size + 1 + 1 + 1, 1, none⟩ (.int .u32 0)) A0 A1 A2 n0 n1 n2 A0 A1 A2 st := fun W8 f8 => by
        have fz8 : Fr (fun q => (q = w.heap.size ∨ q = w.heap.size + 1 + 1 ∨ q = w.heap.size + 1 + 1 + 1) ∨ OldB w A0 A1 A2 n0 n1 n2 q) W0 W8 := (fz.mono (fun _ _ h => Or.inl h)).trans f8 (fun _ _ h => Or.inr h)
        exact stF_old HLL.out (HS.out.ext X7) f8
      clear y00 y01 y02 y10 y11 y12 y20 y21 y22 y30 y31 z00 z01 z02 z20 z21 z22 z30 z31
      generalize (((((W0.setCell ⟨w.heap.size + 1 + 1, 0, none⟩ (.slice A0 n0 c0)).setCell ⟨w.heap.size + 1 + 1, 1, none⟩ (.slice A1 n1 c1)).setCell ⟨w.heap.size + 1 + 1, 2, none⟩ (.slice A2 n2 c2)).setCell ⟨w.heap.size + 1 + 1 + 1, 0, none⟩ (.int .i64 0)).setCell ⟨w.heap.size + 1 + 1 + 1, 1, none⟩ (.int .u32 0)) = W7 at *
      obtain ⟨q0, q1, q2, q3, q4⟩ := hcs
      exact bodyPost_ret (v := .tuple #[.agg #[.slice A0 n0 c0, .slice A1 n1 c1, .slice A2 n2 c2], .agg #[.int .i64 0, .int .u32 0]]) (by simp [results, Try.results10, go_sem, q0, q1, q2, q3, q4]) rfl ⟨A0, A1, A2, _, _, _, by rw [HLL.out.q, HLL.out.s, HLL.out.m], ⟨by rw [HLL.out.q]; exact HCP.out.1, HCP.out.2⟩, S7, ⟨fun h0 ad e => Or.inl ⟨(by have h9 : 0 < st.q.length := h0; have := HLL.out.q; omega), ad, e, rfl⟩, fun h0 ad e => Or.inl ⟨(by have h9 : 0 < st.s.length := h0; have := HLL.out.s; omega), ad, e, rfl⟩, fun h0 ad e => Or.inl ⟨(by have h9 : 0 < st.m.length := h0; have := HLL.out.m; omega), ad, e, rfl⟩⟩, X7⟩
set_option maxRecDepth 100000 in
set_option maxHeartbeats 4000000 in
theorem rApp0_high (w : World) (A0 A1 A2 : Option Addr) (n0 n1 n2 c0 c1 c2 : Nat) (st : Sta) (a b : Int) (h : StAt w A0 A1 A2 st) (hl : Lens st n0 n1 n2) (m0 : n0 ≤ 1000) (m1 : n1 ≤ 1000) (m2 : n2 ≤ 1000) (hcap : n0 ≤ c0 ∧ c0 ≤ 9223372036854775807) (k : Int) (hk : 8 < k) :
    Calls Try.prog 10 #[.agg #[.slice A0 n0 c0, .slice A1 n1 c1, .slice A2 n2 c2], .agg #[.int .i64 k, .int .u32 a, .int .u32 b]] w (RPost w A0 A1 A2 n0 n1 n2 (doS st k a b).1 (doS st k a b).2) := by
  have e0 : doS st k a b = (st, (0, 0)) := doS_0 st k a b (by unfold partK; rw [if_neg (by omega), if_neg (by omega), if_neg (by omega)])
  rw [e0]
  clear e0
  have hk1 : (k == 1) = false := by rw [beq_eq_false_iff_ne]; omega
  have hk2 : (k == 2) = false := by rw [beq_eq_false_iff_ne]; omega
  have hd1 : decide (3 ≤ k) = true := by simp; omega
  have hd2 : decide (6 ≤ k) = true := by simp; omega
  have hd3 : decide (k < 3) = false := by simp; omega
  have hd4 : decide (k ≤ 5) = false := by simp; omega
  have hd5 : decide (k ≤ 8) = false := by simp; omega
  have hd6 : decide (8 < k) = true := by simp; omega
  clear hk
  have HS := Lib.hid h
  have HLL := Lib.hid hl
  have HCP := Lib.hid hcap
  obtain ⟨k0, k1, k2, k3⟩ := four_new w (.slice A0 n0 c0) (.slice A1 n1 c1) (.slice A2 n2 c2) k a b
  have K0 := Lib.hid k0
  have K1 := Lib.hid k1
  have K2 := Lib.hid k2
  have K3 := Lib.hid k3
  have X0 := Lib.hid (((((Ext.refl w).alloc (.cells #[.slice A0 n0 c0, .slice A1 n1 c1, .slice A2 n2 c2] 25)).alloc (.cells #[.int .i64 k, .int .u32 a, .int .u32 b] 38)).alloc (.cells #[.slice none 0 0, .slice none 0 0, .slice none 0 0] 25)).alloc (.cells #[.int .i64 0, .int .u32 0] 34))
  clear h hl k0 k1 k2 k3 hcap
  go_enter Try.func10, Try.ntmps10
  go_upto_region 1 with fail
  generalize ((((w.alloc (.cells #[.slice A0 n0 c0, .slice A1 n1 c1, .slice A2 n2 c2] 25)).alloc (.cells #[.int .i64 k, .int .u32 a, .int .u32 b] 38)).alloc (.cells #[.slice none 0 0, .slice none 0 0, .slice none 0 0] 25)).alloc (.cells #[.int .i64 0, .int .u32 0] 34)) = W0 at *
  have s3 : w.heap.size + 1 + 1 + 1 < W0.heap.size := K3.out.lt
  have e01 : ¬ w.heap.size = w.heap.size + 1 := by omega
  have e02 : ¬ w.heap.size = w.heap.size + 1 + 1 := by omega
  have e03 : ¬ w.heap.size = w.heap.size + 1 + 1 + 1 := by omega
  have e20 : ¬ w.heap.size + 1 + 1 = w.heap.size := by omega
  have e23 : ¬ w.heap.size + 1 + 1 = w.heap.size + 1 + 1 + 1 := by omega
  have e30 : ¬ w.heap.size + 1 + 1 + 1 = w.heap.size := by omega
  have e32 : ¬ w.heap.size + 1 + 1 + 1 = w.heap.size + 1 + 1 := by omega
  have e10 : ¬ w.heap.size + 1 = w.heap.size := by omega
  have y00 : W0.cell? ⟨w.heap.size, 0, none⟩ = some (.slice A0 n0 c0) := (K0.out.ext (Ext.refl W0)).cell 0
  have z00 : W0.frozen? ⟨w.heap.size, 0, none⟩ = false := (K0.out.ext (Ext.refl W0)).frozen 0
  have y01 : W0.cell? ⟨w.heap.size, 1, none⟩ = some (.slice A1 n1 c1) := (K0.out.ext (Ext.refl W0)).cell 1
  have z01 : W0.frozen? ⟨w.heap.size, 1, none⟩ = false := (K0.out.ext (Ext.refl W0)).frozen 1
  have y02 : W0.cell? ⟨w.heap.size, 2, none⟩ = some (.slice A2 n2 c2) := (K0.out.ext (Ext.refl W0)).cell 2
  have z02 : W0.frozen? ⟨w.heap.size, 2, none⟩ = false := (K0.out.ext (Ext.refl W0)).frozen 2
  have y10 : W0.cell? ⟨w.heap.size + 1, 0, none⟩ = some (.int .i64 k) := (K1.out.ext (Ext.refl W0)).cell 0
  have y11 : W0.cell? ⟨w.heap.size + 1, 1, none⟩ = some (.int .u32 a) := (K1.out.ext (Ext.refl W0)).cell 1
  have y12 : W0.cell? ⟨w.heap.size + 1, 2, none⟩ = some (.int .u32 b) := (K1.out.ext (Ext.refl W0)).cell 2
  have y20 : W0.cell? ⟨w.heap.size + 1 + 1, 0, none⟩ = some (.slice none 0 0) := (K2.out.ext (Ext.refl W0)).cell 0
  have z20 : W0.frozen? ⟨w.heap.size + 1 + 1, 0, none⟩ = false := (K2.out.ext (Ext.refl W0)).frozen 0
  have y21 : W0.cell? ⟨w.heap.size + 1 + 1, 1, none⟩ = some (.slice none 0 0) := (K2.out.ext (Ext.refl W0)).cell 1
  have z21 : W0.frozen? ⟨w.heap.size + 1 + 1, 1, none⟩ = false := (K2.out.ext (Ext.refl W0)).frozen 1
  have y22 : W0.cell? ⟨w.heap.size + 1 + 1, 2, none⟩ = some (.slice none 0 0) := (K2.out.ext (Ext.refl W0)).cell 2
  have z22 : W0.frozen? ⟨w.heap.size + 1 + 1, 2, none⟩ = false := (K2.out.ext (Ext.refl W0)).frozen 2
  have y30 : W0.cell? ⟨w.heap.size + 1 + 1 + 1, 0, none⟩ = some (.int .i64 0) := (K3.out.ext (Ext.refl W0)).cell 0
  have z30 : W0.frozen? ⟨w.heap.size + 1 + 1 + 1, 0, none⟩ = false := (K3.out.ext (Ext.refl W0)).frozen 0
  have y31 : W0.cell? ⟨w.heap.size + 1 + 1 + 1, 1, none⟩ = some (.int .u32 0) := (K3.out.ext (Ext.refl W0)).cell 1
  have z31 : W0.frozen? ⟨w.heap.size + 1 + 1 + 1, 1, none⟩ = false := (K3.out.ext (Ext.refl W0)).frozen 1
  go_wp2_with fail
  go_loopw [10] (fun i wr => i = .int .i64 0 ∧ W0 = wr) (fun _ _ => 0)
  case atStart => exact ⟨rfl, rfl⟩
  case round =>
    obtain ⟨rfl, rfl⟩ := hrel
    go_wp2_with fail
    go_loopw [12] (fun i wr => i = .int .i64 0 ∧ W0 = wr) (fun _ _ => 0)
    case atStart => exact ⟨rfl, rfl⟩
    case round =>
      obtain ⟨rfl, rfl⟩ := hrel
      go_wp2_with fail
      have W0L := K2.out.ext (Ext.refl W0)
      have W0M := K3.out.ext (Ext.refl W0)
      have hfin : Fr (fun q => q = w.heap.size ∨ q = w.heap.size + 1 + 1 ∨ q = w.heap.size + 1 + 1 + 1) W0 (((((W0.setCell ⟨w.heap.size + 1 + 1, 0, none⟩ (.slice A0 n0 c0)).setCell ⟨w.heap.size + 1 + 1, 1, none⟩ (.slice A1 n1 c1)).setCell ⟨w.heap.size + 1 + 1, 2, none⟩ (.slice A2 n2 c2)).setCell ⟨w.heap.size + 1 + 1 + 1, 0, none⟩ (.int .i64 0)).setCell ⟨w.heap.size + 1 + 1 + 1, 1, none⟩ (.int .u32 0)) ∧ ((((((W0.setCell ⟨w.heap.size + 1 + 1, 0, none⟩ (.slice A0 n0 c0)).setCell ⟨w.heap.size + 1 + 1, 1, none⟩ (.slice A1 n1 c1)).setCell ⟨w.heap.size + 1 + 1, 2, none⟩ (.slice A2 n2 c2)).setCell ⟨w.heap.size + 1 + 1 + 1, 0, none⟩ (.int .i64 0)).setCell ⟨w.heap.size + 1 + 1 + 1, 1, none⟩ (.int .u32 0)).cell? ⟨w.heap.size + 1 + 1, 0, none⟩ = some (.slice A0 n0 c0) ∧ (((((W0.setCell ⟨w.heap.size + 1 + 1, 0, none⟩ (.slice A0 n0 c0)).setCell ⟨w.heap.size + 1 + 1, 1, none⟩ (.slice A1 n1 c1)).setCell ⟨w.heap.size + 1 + 1, 2, none⟩ (.slice A2 n2 c2)).setCell ⟨w.heap.size + 1 + 1 + 1, 0, none⟩ (.int .i64 0)).setCell ⟨w.heap.size + 1 + 1 + 1, 1, none⟩ (.int .u32 0)).cell? ⟨w.heap.size + 1 + 1, 1, none⟩ = some (.slice A1 n1 c1) ∧ (((((W0.setCell ⟨w.heap.size + 1 + 1, 0, none⟩ (.slice A0 n0 c0)).setCell ⟨w.heap.size + 1 + 1, 1, none⟩ (.slice A1 n1 c1)).setCell ⟨w.heap.size + 1 + 1, 2, none⟩ (.slice A2 n2 c2)).setCell ⟨w.heap.size + 1 + 1 + 1, 0, none⟩ (.int .i64 0)).setCell ⟨w.heap.size + 1 + 1 + 1, 1, none⟩ (.int .u32 0)).cell? ⟨w.heap.size + 1 + 1, 2, none⟩ = some (.slice A2 n2 c2) ∧ (((((W0.setCell ⟨w.heap.size + 1 + 1, 0, none⟩ (.slice A0 n0 c0)).setCell ⟨w.heap.size + 1 + 1, 1, none⟩ (.slice A1 n1 c1)).setCell ⟨w.heap.size + 1 + 1, 2, none⟩ (.slice A2 n2 c2)).setCell ⟨w.heap.size + 1 + 1 + 1, 0, none⟩ (.int .i64 0)).setCell ⟨w.heap.size + 1 + 1 + 1, 1, none⟩ (.int .u32 0)).cell? ⟨w.heap.size + 1 + 1 + 1, 0, none⟩ = some (.int .i64 0) ∧ (((((W0.setCell ⟨w.heap.size + 1 + 1, 0, none⟩ (.slice A0 n0 c0)).setCell ⟨w.heap.size + 1 + 1, 1, none⟩ (.slice A1 n1 c1)).setCell ⟨w.heap.size + 1 + 1, 2, none⟩ (.slice A2 n2 c2)).setCell ⟨w.heap.size + 1 + 1 + 1, 0, none⟩ (.int .i64 0)).setCell ⟨w.heap.size + 1 + 1 + 1, 1, none⟩ (.int .u32 0)).cell? ⟨w.heap.size + 1 + 1 + 1, 1, none⟩ = some (.int .u32 0)) := fin_ret W0 w.heap.size none (.slice A0 n0 c0) (.slice A1 n1 c1) (.slice A2 n2 c2) 0 0 W0L W0M
      have fz := hfin.1
      have hcs := hfin.2
      clear hfin W0L W0M
      have X7 := fz.ext (X0.out.trans (Ext.refl W0)) (fun q e => by rcases e with e | e | e <;> omega)
      have S7 : StF w (((((W0.setCell ⟨w.heap.size + 1 + 1, 0, none⟩ (.slice A0 n0 c0)).setCell ⟨w.heap.size + 1 + 1, 1, none⟩ (.slice A1 n1 c1)).setCell ⟨w.heap.size + 1 + 1, 2, none⟩ (.slice A2 n2 c2)).setCell ⟨w.heap.size + 1 + 1 + 1, 0, none⟩ (.int .i64 0)).setCell ⟨w.heap.size + 1 + 1 + 1, 1, none⟩ (.int .u32 0)) A0 A1 A2 n0 n1 n2 A0 A1 A2 st := fun W8 f8 => by
        have fz8 : Fr (fun q => (q = w.heap.size ∨ q = w.heap.size + 1 + 1 ∨ q = w.heap.size + 1 + 1 + 1) ∨ OldB w A0 A1 A2 n0 n1 n2 q) W0 W8 := (fz.mono (fun _ _ h => Or.inl h)).trans f8 (fun _ _ h => Or.inr h)
        exact stF_old HLL.out (HS.out.ext X7) f8
      clear y00 y01 y02 y10 y11 y12 y20 y21 y22 y30 y31 z00 z01 z02 z20 z21 z22 z30 z31
      generalize (((((W0.setCell ⟨w.heap.size + 1 + 1, 0, none⟩ (.slice A0 n0 c0)).setCell ⟨w.heap.size + 1 + 1, 1, none⟩ (.slice A1 n1 c1)).setCell ⟨w.heap.size + 1 + 1, 2, none⟩ (.slice A2 n2 c2)).setCell ⟨w.heap.size + 1 + 1 + 1, 0, none⟩ (.int .i64 0)).setCell ⟨w.heap.size + 1 + 1 + 1, 1, none⟩ (.int .u32 0)) = W7 at *
      obtain ⟨q0, q1, q2, q3, q4⟩ := hcs
      exact bodyPost_ret (v := .tuple #[.agg #[.slice A0 n0 c0, .slice A1 n1 c1, .slice A2 n2 c2], .agg #[.int .i64 0, .int .u32 0]]) (by simp [results, Try.results10, go_sem, q0, q1, q2, q3, q4]) rfl ⟨A0, A1, A2, _, _, _, by rw [HLL.out.q, HLL.out.s, HLL.out.m], ⟨by rw [HLL.out.q]; exact HCP.out.1, HCP.out.2⟩, S7, ⟨fun h0 ad e => Or.inl ⟨(by have h9 : 0 < st.q.length := h0; have := HLL.out.q; omega), ad, e, rfl⟩, fun h0 ad e => Or.inl ⟨(by have h9 : 0 < st.s.length := h0; have := HLL.out.s; omega), ad, e, rfl⟩, fun h0 ad e => Or.inl ⟨(by have h9 : 0 < st.m.length := h0; have := HLL.out.m; omega), ad, e, rfl⟩⟩, X7⟩
end Go.Proofs.Ythbngenjcgclgaa
