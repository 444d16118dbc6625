/- Layer 8: states, operations and results that came in by their value, read. Conditions: those that each theorem names. -/
import Derived.Test.YthbngenjcgclgaaMod13
import Derived.Test.YthbngenjcgclgaaViews
import Derived.Test.YthbngenjcgclgaaLineMath
import Derived.Deep.Fields
import Derived.Deep.Slices
namespace Go.Proofs.Ythbngenjcgclgaa
open Go.ChangeShapes Go.WideShapes Go.ChangeAt Go.RowKit Go.Deep
set_option linter.unusedVariables false
theorem choose_l {α : Type} {z0 : α} {Q : Nat → α → Prop} : ∀ N, (∀ i, i < N → ∃ z, Q i z) → ∃ zs : List α, zs.length = N ∧ ∀ i, i < N → Q i (zs.getD i z0) := by
  intro N
  induction N with
  | zero => intro _; exact ⟨[], rfl, fun i hi => absurd hi (by omega)⟩
  | succ N ih =>
    intro h
    obtain ⟨zs, hl, hz⟩ := ih fun i hi => h i (by omega)
    obtain ⟨z, hzN⟩ := h N (by omega)
    refine ⟨zs ++ [z], by simp [hl], fun i hi => ?_⟩
    by_cases hi' : i < N
    · rw [List.getD_eq_getElem?_getD, List.getElem?_append_left (by omega), ← List.getD_eq_getElem?_getD]
      exact hz i hi'
    · obtain rfl : i = N := by omega
      rw [List.getD_eq_getElem?_getD, List.getElem?_append_right (by omega), hl, Nat.sub_self]
      exact hzN
section
variable {H : Type} {enc : TypeId × Value → H} {P : Program}
/-- One cell that is a slice of integers. -/
theorem raw_ints {W : World} {t e : TypeId} {k : IntKind} {fuel : Nat} {v : Value} {x : DataW H × List MemPlace} (ht : P.underlying t = some (.slice e)) (he : P.underlying e = some (.int k)) (hc : P.cellsOf e = 1)
    (h : DataW.trod enc P W 0 (fun _ => true) true fuel t [v] = some x) :
    ∃ (A : Option Addr) (c : Nat) (zs : List Int), v = .slice A zs.length c ∧ zs.length ≤ c ∧ c ≤ maxLen ∧ Ints W k A zs ∧ ∀ n ∈ zs, (Lit.int k n).wf = true := by
  rcases open_ints ht he hc h with ⟨hcs, _⟩ | ⟨ad, len, cap, zs, hcs, _, hl, hm, hz, _, hcell, hw⟩
  · injection hcs with e1
    rw [e1]
    exact ⟨none, 0, [], rfl, Nat.le_refl _, by unfold maxLen; omega, Ints.none _ _ _, fun n hn => absurd hn (by simp)⟩
  · injection hcs with e1
    have hz' : zs.length = cap := by simpa using hz
    have hlen : (zs.take len).length = len := by rw [List.length_take]; omega
    rw [e1]
    refine ⟨some ad, cap, zs.take len, by rw [hlen], by omega, hm, fun h0 => ⟨ad, rfl, ?_, fun j hj => ?_⟩, fun n hn => hw n (List.mem_of_mem_take hn)⟩
    · rw [hlen] at h0
      have := World.block_lt_of_cell? W (ad.add 0) (hcell 0 (by omega))
      rwa [add_block] at this
    · rw [hlen] at hj
      rw [hcell j (by omega)]
      simp [List.getD_eq_getElem?_getD, hj]
/-- Cells that are a struct of two numbers. -/
theorem raw_two {W : World} {b : Nat} {sp : Nat → Bool} {held : Bool} {ty : TypeId} {f0 f1 : Field} {k0' k1' : IntKind} {fuel : Nat} {cs : List Value} {d : DataW H × List MemPlace} (ht : P.underlying ty = some (.struct #[f0, f1])) (hone : oneCellFields P #[f0, f1] = true) (hC : P.cellsOf ty = 2)
    (u0 : P.underlying f0.type = some (.int k0')) (u1 : P.underlying f1.type = some (.int k1'))
    (h : DataW.trod enc P W b sp held fuel ty cs = some d) : ∃ x y : Int, cs = [.int k0' x, .int k1' y] ∧ (Lit.int k0' x).wf = true ∧ (Lit.int k1' y).wf = true := by
  obtain ⟨xs, n, _, _, hl, hlen, hf⟩ := DataW.trod_struct ht h
  rw [hC] at hl
  obtain ⟨o0, k0⟩ := hone_of hone 0 f0 rfl
  obtain ⟨o1, k1⟩ := hone_of hone 1 f1 rfl
  match cs, hl, xs, hlen with
  | [c0, c1], _, [y0, y1], _ =>
    have h0 := hf 0 f0 rfl
    have h1 := hf 1 f1 rfl
    simp [o0, k0] at h0
    simp [o1, k1] at h1
    obtain ⟨k, e0, _, w0⟩ := DataW.trod_int u0 h0
    obtain ⟨t, e1, _, w1⟩ := DataW.trod_int u1 h1
    injection e0 with e0
    injection e1 with e1
    exact ⟨k, t, by rw [e0, e1], w0, w1⟩
theorem raw_three {W : World} {b : Nat} {sp : Nat → Bool} {held : Bool} {ty : TypeId} {f0 f1 f2 : Field} {k0' k1' k2' : IntKind} {fuel : Nat} {cs : List Value} {d : DataW H × List MemPlace} (ht : P.underlying ty = some (.struct #[f0, f1, f2])) (hone : oneCellFields P #[f0, f1, f2] = true) (hC : P.cellsOf ty = 3)
    (u0 : P.underlying f0.type = some (.int k0')) (u1 : P.underlying f1.type = some (.int k1')) (u2 : P.underlying f2.type = some (.int k2'))
    (h : DataW.trod enc P W b sp held fuel ty cs = some d) : ∃ x y z : Int, cs = [.int k0' x, .int k1' y, .int k2' z] ∧ (Lit.int k0' x).wf = true ∧ (Lit.int k1' y).wf = true ∧ (Lit.int k2' z).wf = true := by
  obtain ⟨xs, n, _, _, hl, hlen, hf⟩ := DataW.trod_struct ht h
  rw [hC] at hl
  obtain ⟨o0, k0⟩ := hone_of hone 0 f0 rfl
  obtain ⟨o1, k1⟩ := hone_of hone 1 f1 rfl
  obtain ⟨o2, k2⟩ := hone_of hone 2 f2 rfl
  match cs, hl, xs, hlen with
  | [c0, c1, c2], _, [y0, y1, y2], _ =>
    have h0 := hf 0 f0 rfl
    have h1 := hf 1 f1 rfl
    have h2 := hf 2 f2 rfl
    simp [o0, k0] at h0
    simp [o1, k1] at h1
    simp [o2, k2] at h2
    obtain ⟨k, e0, _, w0⟩ := DataW.trod_int u0 h0
    obtain ⟨t, e1, _, w1⟩ := DataW.trod_int u1 h1
    obtain ⟨z, e2, _, w2⟩ := DataW.trod_int u2 h2
    injection e0 with e0
    injection e1 with e1
    injection e2 with e2
    exact ⟨k, t, z, by rw [e0, e1, e2], w0, w1, w2⟩
/-- One cell that is a slice of pairs. -/
theorem raw_pairs {W : World} {t ty : TypeId} {f0 f1 : Field} {fuel : Nat} {v : Value} {x : DataW H × List MemPlace} (hs : P.underlying t = some (.slice ty)) (ht : P.underlying ty = some (.struct #[f0, f1])) (hone : oneCellFields P #[f0, f1] = true) (hC : P.cellsOf ty = 2)
    (u0 : P.underlying f0.type = some (.int .u32)) (u1 : P.underlying f1.type = some (.int .u32))
    (h : DataW.trod enc P W 0 (fun _ => true) true fuel t [v] = some x) :
    ∃ (A : Option Addr) (c : Nat) (ps : List Pr), v = .slice A ps.length c ∧ ps.length ≤ c ∧ c ≤ maxLen ∧ PAt W A ps := by
  rcases open_slice hs h with ⟨hcs, _⟩ | ⟨ad, len, cap, m, k, D, Pl, hcs, _, hl, hm, hmm, _, hi⟩
  · injection hcs with e1
    rw [e1]
    exact ⟨none, 0, [], rfl, Nat.le_refl _, by unfold maxLen; omega, fun h => absurd h (by decide)⟩
  · injection hcs with e1
    rw [e1]
    have hmc : m = cap := by simpa using hmm
    have key : ∀ i, i < len → ∃ z : Pr, W.cell? (ad.add (i * 2)) = some (.int .u32 z.1) ∧ W.cell? ⟨(ad.add (i * 2)).block, (ad.add (i * 2)).off + 1, none⟩ = some (.int .u32 z.2) := fun i hilt => by
      obtain ⟨cs', hcells, htr⟩ := hi i (by omega)
      obtain ⟨_, hlen, hat⟩ := World.cells?_some hcells
      obtain ⟨x', y', hcs', _⟩ := raw_two ht hone hC u0 u1 htr
      subst hcs'
      rw [hC] at hat
      have hj : ∀ j, j < 2 → W.cell? (ad.add (i * 2 + j)) = [Value.int .u32 x', .int .u32 y'][j]? := fun j hj => by
        have := hat j hj
        rw [Go.Deep.add_add] at this
        exact this
      refine ⟨(x', y'), hj 0 (by omega), ?_⟩
      rw [← add_spot _ _ _ (by omega)]
      exact hj 1 (by omega)
    obtain ⟨ps, hal, ha⟩ := choose_l (z0 := (0, 0)) len key
    subst hal
    refine ⟨some ad, cap, ps, rfl, hl, hm, fun h0 => ⟨ad, rfl, ?_, fun i hi => ha i hi⟩⟩
    have := World.block_lt_of_cell? W (ad.add (0 * 2)) (ha 0 h0).1
    rwa [add_block] at this
/-- Operations that came in. -/
theorem view_ops {W : World} {t ty : TypeId} {f0 f1 f2 : Field} {v : Value} {d : DataW H} {p : List MemPlace} (hs : P.underlying t = some (.slice ty)) (ht : P.underlying ty = some (.struct #[f0, f1, f2])) (hone : oneCellFields P #[f0, f1, f2] = true) (hC : P.cellsOf ty = 3)
    (u0 : P.underlying f0.type = some (.int .i64)) (u1 : P.underlying f1.type = some (.int .u32)) (u2 : P.underlying f2.type = some (.int .u32))
    {base : Nat} (hv : Value.okWide P W .any base t v) (h : DataW.Trod enc P W 0 (fun _ => true) true t v d p) :
    ∃ (A : Option Addr) (c : Nat) (os : List O3), v = .slice A os.length c ∧ os.length ≤ c ∧ c ≤ maxLen ∧ OAt W A os := by
  obtain ⟨a, l, c, rfl⟩ := okWide_slice hs hv
  obtain ⟨f, hf⟩ := h
  have hf' : DataW.trod enc P W 0 (fun _ => true) true f t [.slice a l c] = some (d, p) := hf
  rcases open_slice hs hf' with ⟨hcs, _⟩ | ⟨ad, len, cap, m, k, D, Pl, hcs, _, hl, hm, hmm, _, hi⟩
  · injection hcs with e1
    rw [e1]
    exact ⟨none, 0, [], rfl, Nat.le_refl _, by unfold maxLen; omega, fun h => absurd h (by decide)⟩
  · injection hcs with e1
    rw [e1]
    have hmc : m = cap := by simpa using hmm
    have key : ∀ i, i < len → ∃ z : O3, W.cell? (ad.add (i * 3)) = some (.int .i64 z.1) ∧ W.cell? ⟨(ad.add (i * 3)).block, (ad.add (i * 3)).off + 1, none⟩ = some (.int .u32 z.2.1) ∧ W.cell? ⟨(ad.add (i * 3)).block, (ad.add (i * 3)).off + 2, none⟩ = some (.int .u32 z.2.2) := fun i hilt => by
      obtain ⟨cs', hcells, htr⟩ := hi i (by omega)
      obtain ⟨_, hlen, hat⟩ := World.cells?_some hcells
      obtain ⟨x', y', z', hcs', _⟩ := raw_three ht hone hC u0 u1 u2 htr
      subst hcs'
      rw [hC] at hat
      have hj : ∀ j, j < 3 → W.cell? (ad.add (i * 3 + j)) = [Value.int .i64 x', .int .u32 y', .int .u32 z'][j]? := fun j hj => by
        have := hat j hj
        rw [Go.Deep.add_add] at this
        exact this
      refine ⟨(x', y', z'), hj 0 (by omega), ?_, ?_⟩
      · rw [← add_spot _ _ _ (by omega)]
        exact hj 1 (by omega)
      · rw [← add_spot _ _ _ (by omega)]
        exact hj 2 (by omega)
    obtain ⟨ps, hal, ha⟩ := choose_l (z0 := (0, 0, 0)) len key
    subst hal
    refine ⟨some ad, cap, ps, rfl, hl, hm, fun h0 => ⟨ad, rfl, ?_, fun i hi => ha i hi⟩⟩
    have := World.block_lt_of_cell? W (ad.add (0 * 3)) (ha 0 h0).1
    rwa [add_block] at this
/-- An operation that came in by its value. -/
theorem view_op {W : World} {ty : TypeId} {f0 f1 f2 : Field} {v : Value} {d : DataW H} {p : List MemPlace} (ht : P.underlying ty = some (.struct #[f0, f1, f2])) (hone : oneCellFields P #[f0, f1, f2] = true) (hC : P.cellsOf ty = 3)
    (u0 : P.underlying f0.type = some (.int .i64)) (u1 : P.underlying f1.type = some (.int .u32)) (u2 : P.underlying f2.type = some (.int .u32))
    {base : Nat} (hv : Value.okWide P W .any base ty v) (h : DataW.Trod enc P W 0 (fun _ => true) true ty v d p) : ∃ k a b : Int, v = .agg #[.int .i64 k, .int .u32 a, .int .u32 b] := by
  obtain ⟨cs, rfl, hsz⟩ := okWide_struct ht hv
  obtain ⟨f, hf⟩ := h
  obtain ⟨k, a, b, e, _⟩ := raw_three ht hone hC u0 u1 u2 hf
  refine ⟨k, a, b, ?_⟩
  have e' : cs.toList = _ := e
  rw [← e']
/-- A result that came in by its value. -/
theorem view_res {W : World} {ty : TypeId} {f0 f1 : Field} {v : Value} {d : DataW H} {p : List MemPlace} (ht : P.underlying ty = some (.struct #[f0, f1])) (hone : oneCellFields P #[f0, f1] = true) (hC : P.cellsOf ty = 2)
    (u0 : P.underlying f0.type = some (.int .i64)) (u1 : P.underlying f1.type = some (.int .u32))
    {base : Nat} (hv : Value.okWide P W .any base ty v) (h : DataW.Trod enc P W 0 (fun _ => true) true ty v d p) : ∃ k a : Int, v = .agg #[.int .i64 k, .int .u32 a] := by
  obtain ⟨cs, rfl, hsz⟩ := okWide_struct ht hv
  obtain ⟨f, hf⟩ := h
  obtain ⟨k, a, e, _⟩ := raw_two ht hone hC u0 u1 hf
  refine ⟨k, a, ?_⟩
  have e' : cs.toList = _ := e
  rw [← e']
/-- A state that came in by its value. -/
theorem view_state {W : World} {ty e2 : TypeId} {f0 f1 f2 g0 g1 : Field} {e0 : TypeId} {v : Value} {d : DataW H} {p : List MemPlace} (ht : P.underlying ty = some (.struct #[f0, f1, f2])) (hone : oneCellFields P #[f0, f1, f2] = true) (hC : P.cellsOf ty = 3)
    (u0 : P.underlying f0.type = some (.slice e0)) (u1 : P.underlying f1.type = some (.slice e0)) (u2 : P.underlying f2.type = some (.slice e2)) (he0 : P.underlying e0 = some (.int .u32)) (hc0 : P.cellsOf e0 = 1)
    (ht2 : P.underlying e2 = some (.struct #[g0, g1])) (hone2 : oneCellFields P #[g0, g1] = true) (hC2 : P.cellsOf e2 = 2) (v0 : P.underlying g0.type = some (.int .u32)) (v1 : P.underlying g1.type = some (.int .u32))
    {base : Nat} (hv : Value.okWide P W .any base ty v) (h : DataW.Trod enc P W 0 (fun _ => true) true ty v d p) :
    ∃ (A0 A1 A2 : Option Addr) (c0 c1 c2 : Nat) (st : Sta), v = .agg #[.slice A0 st.q.length c0, .slice A1 st.s.length c1, .slice A2 st.m.length c2] ∧ StAt W A0 A1 A2 st ∧ (st.q.length ≤ c0 ∧ st.s.length ≤ c1 ∧ st.m.length ≤ c2) ∧ (c0 ≤ maxLen ∧ c1 ≤ maxLen ∧ c2 ≤ maxLen) := by
  obtain ⟨cs, rfl, hsz⟩ := okWide_struct ht hv
  obtain ⟨f, h⟩ := h
  obtain ⟨xs, n, _, _, hl, hlen, hf⟩ := DataW.trod_struct ht h
  rw [hC] at hl
  obtain ⟨o0, k0⟩ := hone_of hone 0 f0 rfl
  obtain ⟨o1, k1⟩ := hone_of hone 1 f1 rfl
  obtain ⟨o2, k2⟩ := hone_of hone 2 f2 rfl
  obtain ⟨cl⟩ := cs
  have hl' : cl.length = 3 := hl
  match cl, hl', xs, hlen with
  | [c0, c1, c2], _, [y0, y1, y2], _ =>
    have h0 := hf 0 f0 rfl
    have h1 := hf 1 f1 rfl
    have h2 := hf 2 f2 rfl
    simp [o0, k0, Value.cells] at h0
    simp [o1, k1, Value.cells] at h1
    simp [o2, k2, Value.cells] at h2
    obtain ⟨A0, d0, zs, rfl, l0, m0, I0, _⟩ := raw_ints u0 he0 hc0 h0
    obtain ⟨A1, d1, ys, rfl, l1, m1, I1, _⟩ := raw_ints u1 he0 hc0 h1
    obtain ⟨A2, d2, ps, rfl, l2, m2, I2⟩ := raw_pairs u2 ht2 hone2 hC2 v0 v1 h2
    exact ⟨A0, A1, A2, d0, d1, d2, ⟨zs, ys, ps⟩, rfl, ⟨I0, I1, I2⟩, ⟨l0, l1, l2⟩, ⟨m0, m1, m2⟩⟩
end
end Go.Proofs.Ythbngenjcgclgaa
