/- An operation that came in by its value, read, and in which range its key is. Conditions: those that each theorem names. -/
import Derived.Test.YtfjfeomkmhbpbaaBase
import Derived.Deep.Fields
import Derived.Deep.Slices
namespace Go.Proofs.Ytfjfeomkmhbpbaa
open Go.ChangeShapes Go.WideShapes Go.ChangeAt Go.RowKit Go.Deep
set_option linter.unusedVariables false
section
variable {H : Type} {enc : TypeId × Value → H} {P : Program}
theorem raw_op {W : World} {b : Nat} {sp : Nat → Bool} {held : Bool} {ty : TypeId} {f0 f1 f2 : Field} {k0' k1' k2' : IntKind} {fuel : Nat} {cs : List Value} {d : DataW H × List MemPlace} (ht : P.underlying ty = some (.struct #[f0, f1, f2])) (hone : oneCellFields P #[f0, f1, f2] = true) (hC : P.cellsOf ty = 3)
    (u0 : P.underlying f0.type = some (.int k0')) (u1 : P.underlying f1.type = some (.int k1')) (u2 : P.underlying f2.type = some (.int k2'))
    (h : DataW.trod enc P W b sp held fuel ty cs = some d) : ∃ x y z : Int, cs = [.int k0' x, .int k1' y, .int k2' z] ∧ (Lit.int k0' x).wf = true ∧ (Lit.int k1' y).wf = true ∧ (Lit.int k2' z).wf = true := by
  obtain ⟨xs, n, _, _, hl, hlen, hf⟩ := DataW.trod_struct ht h
  rw [hC] at hl
  obtain ⟨o0, k0⟩ := hone_of hone 0 f0 rfl
  obtain ⟨o1, k1⟩ := hone_of hone 1 f1 rfl
  obtain ⟨o2, k2⟩ := hone_of hone 2 f2 rfl
  match cs, hl, xs, hlen with
  | [c0, c1, c2], _, [y0, y1, y2], _ =>
    have h0 := hf 0 f0 rfl
    have h1 := hf 1 f1 rfl
    have h2 := hf 2 f2 rfl
    simp [o0, k0] at h0
    simp [o1, k1] at h1
    simp [o2, k2] at h2
    obtain ⟨k, e0, _, w0⟩ := DataW.trod_int u0 h0
    obtain ⟨t, e1, _, w1⟩ := DataW.trod_int u1 h1
    obtain ⟨z, e2, _, w2⟩ := DataW.trod_int u2 h2
    injection e0 with e0
    injection e1 with e1
    injection e2 with e2
    exact ⟨k, t, z, by rw [e0, e1, e2], w0, w1, w2⟩
theorem view_opR {W : World} {ty : TypeId} {f0 f1 f2 : Field} {v : Value} {d : DataW H} {p : List MemPlace} (ht : P.underlying ty = some (.struct #[f0, f1, f2])) (hone : oneCellFields P #[f0, f1, f2] = true) (hC : P.cellsOf ty = 3)
    (u0 : P.underlying f0.type = some (.int .i64)) (u1 : P.underlying f1.type = some (.int .u32)) (u2 : P.underlying f2.type = some (.int .u32))
    {base : Nat} (hv : Value.okWide P W .any base ty v) (h : DataW.Trod enc P W 0 (fun _ => true) true ty v d p) : ∃ k a b : Int, v = .agg #[.int .i64 k, .int .u32 a, .int .u32 b] ∧ 0 ≤ a ∧ a < 4294967296 := by
  obtain ⟨cs, rfl, hsz⟩ := okWide_struct ht hv
  obtain ⟨f, hf⟩ := h
  obtain ⟨k, a, b, e, _, w1, _⟩ := raw_op ht hone hC u0 u1 u2 hf
  refine ⟨k, a, b, ?_, ?_⟩
  · have e' : cs.toList = _ := e
    rw [← e']
  · simp [Lit.wf, IntKind.min, IntKind.max, IntKind.signed, IntKind.bits] at w1
    omega
end
end Go.Proofs.Ytfjfeomkmhbpbaa
