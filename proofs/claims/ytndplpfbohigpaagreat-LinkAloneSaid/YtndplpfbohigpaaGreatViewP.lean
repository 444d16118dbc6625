/- A pair of numbers of any kind that came in by its value, read. Conditions: those that each theorem names. -/
import Derived.Test.YtndplpfbohigpaaGreatKView
namespace Go.Proofs.YtndplpfbohigpaaGreat
open Go.ChangeShapes Go.WideShapes Go.ChangeAt Go.RowKit Go.Deep
set_option linter.unusedVariables false
section
variable {H : Type} {enc : TypeId × Value → H} {P : Program}
/-- A pair that came in by its value. -/
theorem view_pairK {kk : IntKind} {W : World} {t u : TypeId} {v : Value} {d : DataW H} {p : List MemPlace} (ht : P.underlying t = some (.array 2 u)) (hu : P.underlying u = some (.int kk)) (hc1 : P.cellsOf u = 1) (hct : P.cellsOf t = 2)
    {base : Nat} (hv : Value.okWide P W .any base t v) (h : DataW.Trod enc P W 0 (fun _ => true) true t v d p) (hagg : ∃ cs, v = .agg cs) :
    ∃ a b : Int, v = .agg #[.int kk a, .int kk b] ∧ (Lit.int kk a).wf = true ∧ (Lit.int kk b).wf = true := by
  obtain ⟨cs, rfl⟩ := hagg
  obtain ⟨fl, hf⟩ := h
  obtain ⟨xs, m', _, _, hcl, hxl, hel⟩ := DataW.trod_array ht hf
  obtain ⟨l⟩ := cs
  have hcl' : l.length = 2 := by rw [hct] at hcl; exact hcl
  have key : ∀ i, i < 2 → ∃ z : Int, l[i]? = some (.int kk z) ∧ (Lit.int kk z).wf = true := fun i hi => by
    have h1 := hel i hi
    rw [hc1, Nat.mul_one] at h1
    have hone : ((Value.agg l.toArray).cells.toList.drop i).take 1 = [l[i]'(by omega)] := by
      show (l.drop i).take 1 = _
      rw [List.drop_eq_getElem_cons (by omega)]; rfl
    rw [hone, List.getElem?_eq_getElem (by omega)] at h1
    obtain ⟨z, hz, _, hw⟩ := DataW.trod_int hu h1
    refine ⟨z, ?_, hw⟩
    rw [List.getElem?_eq_getElem (by omega)]
    injection hz with hz
    rw [hz]
  obtain ⟨a, ha, wa⟩ := key 0 (by omega)
  obtain ⟨b, hb, wb⟩ := key 1 (by omega)
  match l, hcl', ha, hb with
  | [c0, c1], _, ha, hb =>
    simp at ha hb
    exact ⟨a, b, by rw [ha, hb], wa, wb⟩
end
end Go.Proofs.YtndplpfbohigpaaGreat
