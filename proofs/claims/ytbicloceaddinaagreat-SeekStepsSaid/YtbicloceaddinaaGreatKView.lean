/- Grounds that came in by their value, read. Conditions: those that each theorem names. -/
import Derived.Test.YtbicloceaddinaaGreatKGr
import Derived.Test.YtbicloceaddinaaGreatViews
import Derived.Test.YtbicloceaddinaaGreatLineMath
import Derived.Deep.Fields
import Derived.Deep.Slices
namespace Go.Proofs.YtbicloceaddinaaGreat
open Go.ChangeShapes Go.WideShapes Go.ChangeAt Go.RowKit Go.Deep
set_option linter.unusedVariables false
theorem choose_p {Q : Nat → Put → Prop} : ∀ N, (∀ i, i < N → ∃ z, Q i z) → ∃ zs : List Put, zs.length = N ∧ ∀ i, i < N → Q i (zs.getD i (0, 0)) := by
  intro N
  induction N with
  | zero => intro _; exact ⟨[], rfl, fun i hi => absurd hi (by omega)⟩
  | succ N ih =>
    intro h
    obtain ⟨zs, hl, hz⟩ := ih fun i hi => h i (by omega)
    obtain ⟨z, hzN⟩ := h N (by omega)
    refine ⟨zs ++ [z], by simp [hl], fun i hi => ?_⟩
    by_cases hi' : i < N
    · rw [List.getD_eq_getElem?_getD, List.getElem?_append_left (by omega), ← List.getD_eq_getElem?_getD]
      exact hz i hi'
    · obtain rfl : i = N := by omega
      rw [List.getD_eq_getElem?_getD, List.getElem?_append_right (by omega), hl, Nat.sub_self]
      exact hzN
section
variable {H : Type} {enc : TypeId × Value → H} {P : Program}
theorem raw_put {W : World} {b : Nat} {sp : Nat → Bool} {held : Bool} {ty : TypeId} {f0 f1 : Field} {fuel : Nat} {cs : List Value} {d : DataW H × List MemPlace} (ht : P.underlying ty = some (.struct #[f0, f1])) (hone : oneCellFields P #[f0, f1] = true) (hC : P.cellsOf ty = 2)
    (u0 : P.underlying f0.type = some (.int .i64)) (u1 : P.underlying f1.type = some (.int .u64))
    (h : DataW.trod enc P W b sp held fuel ty cs = some d) : ∃ x y : Int, cs = [.int .i64 x, .int .u64 y] ∧ (Lit.int .i64 x).wf = true ∧ (Lit.int .u64 y).wf = true := by
  obtain ⟨xs, n, _, _, hl, hlen, hf⟩ := DataW.trod_struct ht h
  rw [hC] at hl
  obtain ⟨o0, k0⟩ := hone_of hone 0 f0 rfl
  obtain ⟨o1, k1⟩ := hone_of hone 1 f1 rfl
  match cs, hl, xs, hlen with
  | [c0, c1], _, [y0, y1], _ =>
    have h0 := hf 0 f0 rfl
    have h1 := hf 1 f1 rfl
    simp [o0, k0] at h0
    simp [o1, k1] at h1
    obtain ⟨k, e0, _, w0⟩ := DataW.trod_int u0 h0
    obtain ⟨t, e1, _, w1⟩ := DataW.trod_int u1 h1
    injection e0 with e0
    injection e1 with e1
    exact ⟨k, t, by rw [e0, e1], w0, w1⟩
theorem raw_cfg {W : World} {b : Nat} {sp : Nat → Bool} {held : Bool} {ty : TypeId} {f0 f1 f2 f3 : Field} {fuel : Nat} {cs : List Value} {d : DataW H × List MemPlace} (ht : P.underlying ty = some (.struct #[f0, f1, f2, f3])) (hone : oneCellFields P #[f0, f1, f2, f3] = true) (hC : P.cellsOf ty = 4)
    (u0 : P.underlying f0.type = some (.int .i64)) (u1 : P.underlying f1.type = some (.int .i64)) (u2 : P.underlying f2.type = some (.int .i64)) (u3 : P.underlying f3.type = some (.int .i64))
    (h : DataW.trod enc P W b sp held fuel ty cs = some d) : ∃ k t l a : Int, cs = [.int .i64 k, .int .i64 t, .int .i64 l, .int .i64 a] := by
  obtain ⟨xs, n, _, _, hl, hlen, hf⟩ := DataW.trod_struct ht h
  rw [hC] at hl
  obtain ⟨o0, k0⟩ := hone_of hone 0 f0 rfl
  obtain ⟨o1, k1⟩ := hone_of hone 1 f1 rfl
  obtain ⟨o2, k2⟩ := hone_of hone 2 f2 rfl
  obtain ⟨o3, k3⟩ := hone_of hone 3 f3 rfl
  match cs, hl, xs, hlen with
  | [c0, c1, c2, c3], _, [y0, y1, y2, y3], _ =>
    have h0 := hf 0 f0 rfl
    have h1 := hf 1 f1 rfl
    have h2 := hf 2 f2 rfl
    have h3 := hf 3 f3 rfl
    simp [o0, k0] at h0
    simp [o1, k1] at h1
    simp [o2, k2] at h2
    simp [o3, k3] at h3
    obtain ⟨k, e0, _, w0⟩ := DataW.trod_int u0 h0
    obtain ⟨t, e1, _, w1⟩ := DataW.trod_int u1 h1
    obtain ⟨l, e2, _, w2⟩ := DataW.trod_int u2 h2
    obtain ⟨a, e3, _, w3⟩ := DataW.trod_int u3 h3
    injection e0 with e0
    injection e1 with e1
    injection e2 with e2
    injection e3 with e3
    exact ⟨k, t, l, a, by rw [e0, e1, e2, e3]⟩
theorem raw_puts {W : World} {t ty : TypeId} {f0 f1 : Field} {fuel : Nat} {v : Value} {x : DataW H × List MemPlace} (hs : P.underlying t = some (.slice ty)) (ht : P.underlying ty = some (.struct #[f0, f1])) (hone : oneCellFields P #[f0, f1] = true) (hC : P.cellsOf ty = 2)
    (u0 : P.underlying f0.type = some (.int .i64)) (u1 : P.underlying f1.type = some (.int .u64))
    (h : DataW.trod enc P W 0 (fun _ => true) true fuel t [v] = some x) :
    ∃ (A : Option Addr) (c : Nat) (ps : List Put), v = .slice A ps.length c ∧ ps.length ≤ c ∧ c ≤ maxLen ∧ PutsAt W A ps := by
  rcases open_slice hs h with ⟨hcs, _⟩ | ⟨ad, len, cap, m, k, D, Pl, hcs, _, hl, hm, hmm, _, hi⟩
  · injection hcs with e1
    rw [e1]
    exact ⟨none, 0, [], rfl, Nat.le_refl _, by unfold maxLen; omega, fun h => absurd h (by decide)⟩
  · injection hcs with e1
    rw [e1]
    have hmc : m = cap := by simpa using hmm
    have key : ∀ i, i < len → ∃ z : Put, (W.cell? (ad.add (i * 2)) = some (.int .i64 z.1) ∧ W.cell? ⟨(ad.add (i * 2)).block, (ad.add (i * 2)).off + 1, none⟩ = some (.int .u64 z.2)) ∧ (-9223372036854775808 ≤ z.1 ∧ z.1 < 9223372036854775808) ∧ (0 ≤ z.2 ∧ z.2 < 18446744073709551616) := fun i hilt => by
      obtain ⟨cs', hcells, htr⟩ := hi i (by omega)
      obtain ⟨_, hlen, hat⟩ := World.cells?_some hcells
      obtain ⟨x', y', hcs', w0, w1⟩ := raw_put ht hone hC u0 u1 htr
      subst hcs'
      rw [hC] at hat
      have hj : ∀ j, j < 2 → W.cell? (ad.add (i * 2 + j)) = [Value.int .i64 x', .int .u64 y'][j]? := fun j hj => by
        have := hat j hj
        rw [Go.Deep.add_add] at this
        exact this
      refine ⟨(x', y'), ⟨hj 0 (by omega), ?_⟩, wf_i64 w0, wf_u64 w1⟩
      rw [← add_spot _ _ _ (by omega)]
      exact hj 1 (by omega)
    obtain ⟨ps, hal, ha⟩ := choose_p len key
    subst hal
    refine ⟨some ad, cap, ps, rfl, hl, hm, fun h0 => ⟨ad, rfl, ?_, fun i hi => ha i hi⟩⟩
    have := World.block_lt_of_cell? W (ad.add (0 * 2)) (ha 0 h0).1.1
    rwa [add_block] at this
theorem view_ground {W : World} {ty tp : TypeId} {fC fP g0 g1 g2 g3 p0 p1 : Field} {v : Value} {d : DataW H} {p : List MemPlace} (ht : P.underlying ty = some (.struct #[fC, fP])) (hC : P.cellsOf ty = 5) (oC : fC.offset = 0) (kC : P.cellsOf fC.type = 4) (oP : fP.offset = 4) (kP : P.cellsOf fP.type = 1)
    (htC : P.underlying fC.type = some (.struct #[g0, g1, g2, g3])) (honeC : oneCellFields P #[g0, g1, g2, g3] = true) (u0 : P.underlying g0.type = some (.int .i64)) (u1 : P.underlying g1.type = some (.int .i64)) (u2 : P.underlying g2.type = some (.int .i64)) (u3 : P.underlying g3.type = some (.int .i64))
    (hs : P.underlying fP.type = some (.slice tp)) (htp : P.underlying tp = some (.struct #[p0, p1])) (honeP : oneCellFields P #[p0, p1] = true) (hCp : P.cellsOf tp = 2) (v0 : P.underlying p0.type = some (.int .i64)) (v1 : P.underlying p1.type = some (.int .u64))
    {base : Nat} (hv : Value.okWide P W .any base ty v) (h : DataW.Trod enc P W 0 (fun _ => true) true ty v d p) :
    ∃ (t s l b : Int) (A : Option Addr) (c : Nat) (ys : List Put), v = .agg #[.int .i64 t, .int .i64 s, .int .i64 l, .int .i64 b, .slice A ys.length c] ∧ ys.length ≤ c ∧ c ≤ maxLen ∧ PutsAt W A ys := by
  obtain ⟨cs, rfl, hsz⟩ := okWide_struct ht hv
  obtain ⟨f, h⟩ := h
  obtain ⟨y0, y1, n, _, hl, h0, h1⟩ := trod_struct2 ht h
  rw [hC] at hl
  rw [oC, kC] at h0
  rw [oP, kP] at h1
  obtain ⟨cl⟩ := cs
  have hl' : cl.length = 5 := hl
  match cl, hl' with
  | [c0, c1, c2, c3, c4], _ =>
    simp [Value.cells] at h0 h1
    obtain ⟨t, s, l, b, e⟩ := raw_cfg htC honeC kC u0 u1 u2 u3 h0
    injection e with e0 e
    injection e with e1 e
    injection e with e2 e
    injection e with e3 e
    obtain ⟨A, c, ys, rfl, h2, h3, h4⟩ := raw_puts hs htp honeP hCp v0 v1 h1
    exact ⟨t, s, l, b, A, c, ys, by rw [e0, e1, e2, e3], h2, h3, h4⟩
end
end Go.Proofs.YtbicloceaddinaaGreat


/- Configs and pairs of numbers that came in by their value, read. Conditions: those that each theorem names. -/
namespace Go.Proofs.YtbicloceaddinaaGreat
open Go.ChangeShapes Go.WideShapes Go.ChangeAt Go.RowKit Go.Deep
set_option linter.unusedVariables false
section
variable {H : Type} {enc : TypeId × Value → H} {P : Program}
end
end Go.Proofs.YtbicloceaddinaaGreat

