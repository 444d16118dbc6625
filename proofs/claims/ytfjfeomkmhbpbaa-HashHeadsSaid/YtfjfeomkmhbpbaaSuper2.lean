/- The line of a config, as package super and as the document's answer make it. Conditions: those that each theorem names. -/
import Derived.Test.YtfjfeomkmhbpbaaSuper1
namespace Go.Proofs.Ytfjfeomkmhbpbaa
open Go.ChangeShapes Go.WideShapes Go.ChangeAt Go.RowKit
set_option linter.unusedVariables false

theorem word_info : (Try.prog.info? 67).map (fun i => (i.zero, i.size, i.bytes)) = some (some (.int .u64 0), 1, 8) := by kernel_rfl
/-- The sum of seven words. -/
def sum7 (a b c d e f i : Int) : Int := (SM.sumOfWords [a, b, c, d, e, f, i] : Nat)
theorem sum7_lim (a b c d e f i : Int) : 0 ≤ sum7 a b c d e f i ∧ sum7 a b c d e f i < 4294967296 := by
  have h : SM.sumOfWords [a, b, c, d, e, f, i] < 4294967296 := by
    unfold SM.sumOfWords
    omega
  unfold sum7
  omega
def U64 (x : Int) : Prop := 0 ≤ x ∧ x < 18446744073709551616
theorem lim7 {a b c d e f i : Int} (ha : U64 a) (hb : U64 b) (hc : U64 c) (hd : U64 d) (he : U64 e) (hf : U64 f) (hi : U64 i) : Lim [a, b, c, d, e, f, i] 18446744073709551616 := by
  intro j hj
  have hj' : j < 7 := hj
  match j, hj' with
  | 0, _ => exact ha
  | 1, _ => exact hb
  | 2, _ => exact hc
  | 3, _ => exact hd
  | 4, _ => exact he
  | 5, _ => exact hf
  | 6, _ => exact hi
theorem ints7 (w : World) (g : Nat) (x : Value) (ty : TypeId) (a b c d e f i : Int) (hg : w.heap[g]? = some (.cells #[.int .u64 a, .int .u64 b, .int .u64 c, .int .u64 d, .int .u64 e, .int .u64 f, .int .u64 i, x] ty (0, 0))) :
    Ints w .u64 (some ⟨g, 0, none⟩) [a, b, c, d, e, f, i] := fun _ => by
  have hlt : g < w.heap.size := (Array.getElem?_eq_some_iff.1 hg).1
  refine ⟨_, rfl, hlt, fun j hj => ?_⟩
  have hj' : j < 7 := hj
  rw [at0, cell_of_row _ _ _ _ _ _ hg]
  match j, hj' with
  | 0, _ => rfl
  | 1, _ => rfl
  | 2, _ => rfl
  | 3, _ => rfl
  | 4, _ => rfl
  | 5, _ => rfl
  | 6, _ => rfl
theorem block8 {w : World} {g : Nat} {x0 x1 x2 x3 x4 x5 x6 x7 : Value} {ty : TypeId} (hg : w.heap[g]? = some (.cells #[x0, x1, x2, x3, x4, x5, x6, x7] ty (0, 0))) :
    (w.cell? ⟨g, 0, none⟩ = some x0 ∧ w.cell? ⟨g, 1, none⟩ = some x1 ∧ w.cell? ⟨g, 2, none⟩ = some x2 ∧ w.cell? ⟨g, 3, none⟩ = some x3 ∧ w.cell? ⟨g, 4, none⟩ = some x4 ∧ w.cell? ⟨g, 5, none⟩ = some x5 ∧ w.cell? ⟨g, 6, none⟩ = some x6 ∧ w.cell? ⟨g, 7, none⟩ = some x7) ∧ (∀ j, w.frozen? ⟨g, j, none⟩ = false) := by
  refine ⟨⟨?_, ?_, ?_, ?_, ?_, ?_, ?_, ?_⟩, fun j => frozen_of_row _ _ _ _ _ hg⟩ <;> (rw [cell_of_row _ _ _ _ _ _ hg]; rfl)
theorem bcell {W w1 : World} (hb : Below W.heap.size W w1) : (∀ b o, b < W.heap.size → w1.cell? ⟨b, o, none⟩ = W.cell? ⟨b, o, none⟩) ∧ (∀ b o, b < W.heap.size → w1.frozen? ⟨b, o, none⟩ = W.frozen? ⟨b, o, none⟩) :=
  ⟨fun b o h => hb.cell (p := ⟨b, o, none⟩) h, fun b o h => hb.frozen (p := ⟨b, o, none⟩) h⟩
/-- The line of a config that may be. -/
def lineCfg (t s l b : Int) : Value := .agg #[.int .u64 7739836655157129782, .int .u64 t, .int .u64 s, .int .u64 l, .int .u64 b, .int .u64 1, .int .u64 0, .int .u64 (sum7 7739836655157129782 t s l b 1 0)]
theorem cfg_lim {t s l b : Int} (h : CfgOk t s l b) : Lim [7739836655157129782, t, s, l, b, 1, 0] 18446744073709551616 := by
  obtain ⟨h1, h2, h3, h4⟩ := h
  exact lim7 ⟨by omega, by omega⟩ ⟨by omega, by omega⟩ ⟨by omega, by omega⟩ ⟨by omega, by omega⟩ ⟨by omega, by omega⟩ ⟨by omega, by omega⟩ ⟨by omega, by omega⟩
theorem cfg_pos {t s l b : Int} (h : CfgOk t s l b) : (0 ≤ t ∧ t < 65537) ∧ (0 ≤ s ∧ s < 65537) ∧ (0 ≤ l ∧ l < 65537) ∧ (0 ≤ b ∧ b < 65537) := by
  obtain ⟨h1, h2, h3, h4⟩ := h
  omega
end Go.Proofs.Ytfjfeomkmhbpbaa
