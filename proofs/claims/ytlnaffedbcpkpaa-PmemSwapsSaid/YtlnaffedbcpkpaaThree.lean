/- Three words that came in by their value. Conditions: those that each theorem names. -/
import Derived.Test.YtlnaffedbcpkpaaArgs
import Derived.Test.YtlnaffedbcpkpaaViews
namespace Go.Proofs.Ytlnaffedbcpkpaa
open Go.ChangeShapes Go.WideShapes Go.ChangeAt Go.RowKit
set_option linter.unusedVariables false
section
variable {H : Type} {enc : TypeId × Value → H} {P : Program}
theorem view_three {W : World} {t u : TypeId} {v : Value} {d : DataW H} {p : List MemPlace} (ht : P.underlying t = some (.array 3 u)) (hu : P.underlying u = some (.int .u64)) (hc1 : P.cellsOf u = 1) (hct : P.cellsOf t = 3)
    {base : Nat} (hv : Value.okWide P W .any base t v) (h : DataW.Trod enc P W 0 (fun _ => true) true t v d p) (hagg : ∃ cs, v = .agg cs) :
    ∃ a b c : Int, v = .agg #[.int .u64 a, .int .u64 b, .int .u64 c] ∧ (0 ≤ a ∧ a < 18446744073709551616) ∧ (0 ≤ b ∧ b < 18446744073709551616) ∧ (0 ≤ c ∧ c < 18446744073709551616) := by
  obtain ⟨cs, rfl⟩ := hagg
  obtain ⟨fl, hf⟩ := h
  obtain ⟨xs, m', _, _, hcl, hxl, hel⟩ := DataW.trod_array ht hf
  obtain ⟨l⟩ := cs
  have hcl' : l.length = 3 := by rw [hct] at hcl; exact hcl
  have key : ∀ i, i < 3 → ∃ z : Int, l[i]? = some (.int .u64 z) ∧ (Lit.int .u64 z).wf = true := fun i hi => by
    have h1 := hel i hi
    rw [hc1, Nat.mul_one] at h1
    have hone : ((Value.agg l.toArray).cells.toList.drop i).take 1 = [l[i]'(by omega)] := by
      show (l.drop i).take 1 = _
      rw [List.drop_eq_getElem_cons (by omega)]; rfl
    rw [hone, List.getElem?_eq_getElem (by omega)] at h1
    obtain ⟨z, hz, _, hw⟩ := DataW.trod_int hu h1
    refine ⟨z, ?_, hw⟩
    rw [List.getElem?_eq_getElem (by omega)]
    injection hz with hz
    rw [hz]
  obtain ⟨a, ha, wa⟩ := key 0 (by omega)
  obtain ⟨b, hb, wb⟩ := key 1 (by omega)
  obtain ⟨c, hc, wc⟩ := key 2 (by omega)
  match l, hcl', ha, hb, hc with
  | [c0, c1, c2], _, ha, hb, hc =>
    simp at ha hb hc
    exact ⟨a, b, c, by rw [ha, hb, hc], wf_u64 wa, wf_u64 wb, wf_u64 wc⟩
end
end Go.Proofs.Ytlnaffedbcpkpaa
