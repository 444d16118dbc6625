/- Acts that came in, read; what is done to no device. Conditions: those that each theorem names. -/
import Derived.Test.YtcelhllhdkminaaDev8
import Derived.Test.YtcelhllhdkminaaViews
namespace Go.Proofs.Ytcelhllhdkminaa
open Go.ChangeShapes Go.WideShapes Go.ChangeAt Go.RowKit Go.Deep
set_option linter.unusedVariables false
section
variable {H : Type} {enc : TypeId × Value → H} {P : Program}
def ActOk (k t l a x : Int) : Prop := (Lit.int .i64 k).wf = true ∧ (Lit.int .i64 t).wf = true ∧ (Lit.int .i64 l).wf = true ∧ (Lit.int .i64 a).wf = true ∧ (Lit.int .u64 x).wf = true
theorem trod_act {W : World} {b : Nat} {sp : Nat → Bool} {held : Bool} {ty : TypeId} {f0 f1 f2 f3 f4 : Field} {fuel : Nat} {cs : List Value} {d : DataW H × List MemPlace} (ht : P.underlying ty = some (.struct #[f0, f1, f2, f3, f4])) (hone : oneCellFields P #[f0, f1, f2, f3, f4] = true) (hC : P.cellsOf ty = 5)
    (u0 : P.underlying f0.type = some (.int .i64)) (u1 : P.underlying f1.type = some (.int .i64)) (u2 : P.underlying f2.type = some (.int .i64)) (u3 : P.underlying f3.type = some (.int .i64)) (u4 : P.underlying f4.type = some (.int .u64))
    (h : DataW.trod enc P W b sp held fuel ty cs = some d) : ∃ k t l a x : Int, cs = [.int .i64 k, .int .i64 t, .int .i64 l, .int .i64 a, .int .u64 x] ∧ ActOk k t l a x := by
  obtain ⟨xs, n, _, _, hl, hlen, hf⟩ := DataW.trod_struct ht h
  rw [hC] at hl
  obtain ⟨o0, k0⟩ := hone_of hone 0 f0 rfl
  obtain ⟨o1, k1⟩ := hone_of hone 1 f1 rfl
  obtain ⟨o2, k2⟩ := hone_of hone 2 f2 rfl
  obtain ⟨o3, k3⟩ := hone_of hone 3 f3 rfl
  obtain ⟨o4, k4⟩ := hone_of hone 4 f4 rfl
  match cs, hl, xs, hlen with
  | [c0, c1, c2, c3, c4], _, [y0, y1, y2, y3, y4], _ =>
    have h0 := hf 0 f0 rfl
    have h1 := hf 1 f1 rfl
    have h2 := hf 2 f2 rfl
    have h3 := hf 3 f3 rfl
    have h4 := hf 4 f4 rfl
    simp [o0, k0] at h0
    simp [o1, k1] at h1
    simp [o2, k2] at h2
    simp [o3, k3] at h3
    simp [o4, k4] at h4
    obtain ⟨k, e0, _, w0⟩ := DataW.trod_int u0 h0
    obtain ⟨t, e1, _, w1⟩ := DataW.trod_int u1 h1
    obtain ⟨l, e2, _, w2⟩ := DataW.trod_int u2 h2
    obtain ⟨a, e3, _, w3⟩ := DataW.trod_int u3 h3
    obtain ⟨x, e4, _, w4⟩ := DataW.trod_int u4 h4
    injection e0 with e0
    injection e1 with e1
    injection e2 with e2
    injection e3 with e3
    injection e4 with e4
    exact ⟨k, t, l, a, x, by rw [e0, e1, e2, e3, e4], w0, w1, w2, w3, w4⟩
/-- An act that came in by its value. -/
theorem view_act {W : World} {ty : TypeId} {f0 f1 f2 f3 f4 : Field} {v : Value} {d : DataW H} {p : List MemPlace} (ht : P.underlying ty = some (.struct #[f0, f1, f2, f3, f4])) (hone : oneCellFields P #[f0, f1, f2, f3, f4] = true) (hC : P.cellsOf ty = 5)
    (u0 : P.underlying f0.type = some (.int .i64)) (u1 : P.underlying f1.type = some (.int .i64)) (u2 : P.underlying f2.type = some (.int .i64)) (u3 : P.underlying f3.type = some (.int .i64)) (u4 : P.underlying f4.type = some (.int .u64))
    {base : Nat} (hv : Value.okWide P W .any base ty v) (h : DataW.Trod enc P W 0 (fun _ => true) true ty v d p) : ∃ k t l a x : Int, v = .agg #[.int .i64 k, .int .i64 t, .int .i64 l, .int .i64 a, .int .u64 x] ∧ ActOk k t l a x := by
  obtain ⟨cs, rfl, hsz⟩ := okWide_struct ht hv
  obtain ⟨f, hf⟩ := h
  obtain ⟨k, t, l, a, x, e, ok⟩ := trod_act ht hone hC u0 u1 u2 u3 u4 hf
  refine ⟨k, t, l, a, x, ?_, ok⟩
  have e' : cs.toList = _ := e
  rw [← e']
end
/-- What an act on no device tells. -/
def noDevice (k : Int) : Int := if k = 3 then 0 else 1
end Go.Proofs.Ytcelhllhdkminaa
