/- What came in, read: slices of lines, a line by its value. Conditions: those that each theorem names. -/
import Derived.Test.YthbngenjcgclgaaArgs
import Derived.Test.YthbngenjcgclgaaLineMath
import Derived.Deep.Slices
import Derived.Deep.Fields
import Derived.ChangeSame
namespace Go.Proofs.Ythbngenjcgclgaa
open Go.ChangeShapes Go.WideShapes Go.ChangeAt Go.RowKit Go.Deep
set_option linter.unusedVariables false
theorem choose_list {Q : Nat → Int → Prop} : ∀ N, (∀ i, i < N → ∃ z, Q i z) → ∃ zs : List Int, zs.length = N ∧ ∀ i, i < N → Q i (zs.getD i 0) := by
  intro N
  induction N with
  | zero => intro _; exact ⟨[], rfl, fun i hi => absurd hi (by omega)⟩
  | succ N ih =>
    intro h
    obtain ⟨zs, hl, hz⟩ := ih fun i hi => h i (by omega)
    obtain ⟨z, hzN⟩ := h N (by omega)
    refine ⟨zs ++ [z], by simp [hl], fun i hi => ?_⟩
    by_cases hi' : i < N
    · rw [List.getD_eq_getElem?_getD, List.getElem?_append_left (by omega), ← List.getD_eq_getElem?_getD]
      exact hz i hi'
    · obtain rfl : i = N := by omega
      rw [List.getD_eq_getElem?_getD, List.getElem?_append_right (by omega), hl, Nat.sub_self]
      exact hzN
section
variable {H : Type} {enc : TypeId × Value → H} {P : Program}
/-- A slice of lines that came in. -/
theorem view_rows {W : World} {t e u : TypeId} {n : Nat} {v : Value} {d : DataW H} {p : List MemPlace} (ht : P.underlying t = some (.slice e)) (he : P.underlying e = some (.array n u)) (hu : P.underlying u = some (.int .u64)) (hc1 : P.cellsOf u = 1) (hce : P.cellsOf e = n) (hn : 0 < n)
    {base : Nat} (hv : Value.okWide P W .any base t v) (h : DataW.Trod enc P W 0 (fun _ => true) true t v d p) :
    ∃ (A : Option Addr) (l c : Nat) (zs : List Int), v = .slice A l c ∧ l ≤ c ∧ c ≤ maxLen ∧ zs.length = n * l ∧ Ints W .u64 A zs ∧ Lim zs 18446744073709551616 := by
  obtain ⟨a, l, c, rfl⟩ := okWide_slice ht hv
  obtain ⟨f, hf⟩ := h
  rcases open_slice ht hf with ⟨hcs, _⟩ | ⟨ad, len, cap, m, k, D, Pl, hcs, _, hl, hm, hmm, _, hi⟩
  · have e1 : Value.slice a l c = .slice none 0 0 := by
      have : [Value.slice a l c] = [.slice none 0 0] := hcs
      injection this
    rw [e1]
    exact ⟨none, 0, 0, [], rfl, Nat.le_refl _, by unfold maxLen; omega, rfl, Ints.none _ _ _, none_lim _⟩
  · have e1 : Value.slice a l c = .slice (some ad) len cap := by
      have : [Value.slice a l c] = [.slice (some ad) len cap] := hcs
      injection this
    rw [e1]
    have hmc : m = cap := by simpa using hmm
    have key : ∀ i, i < n * len → ∃ z : Int, W.cell? (ad.add i) = some (.int .u64 z) ∧ (Lit.int .u64 z).wf = true := fun i hilt => by
      have hq : i / n < m := by
        have : i / n < len := Nat.div_lt_of_lt_mul hilt
        omega
      obtain ⟨cs', hcells, htr⟩ := hi (i / n) hq
      obtain ⟨_, hlen, hat⟩ := World.cells?_some hcells
      obtain ⟨xs, m', _, _, hcl, hxl, hel⟩ := DataW.trod_array he htr
      have hr : i % n < n := Nat.mod_lt _ hn
      have h1 := hel (i % n) hr
      rw [hc1, Nat.mul_one] at h1
      have hrl : i % n < cs'.length := by rw [hlen, hce]; exact hr
      have hone : (cs'.drop (i % n)).take 1 = [cs'[i % n]] := by
        rw [List.drop_eq_getElem_cons hrl]; rfl
      rw [hone] at h1
      have hx : xs[i % n]? = some (xs[i % n]'(by omega)) := List.getElem?_eq_getElem (by omega)
      rw [hx] at h1
      obtain ⟨z, hz, _, hw⟩ := DataW.trod_int hu h1
      refine ⟨z, ?_, hw⟩
      have hcell := hat (i % n) (by rw [hce]; exact hr)
      rw [hce, Go.Deep.add_add, Nat.mul_comm, Nat.div_add_mod] at hcell
      rw [hcell, List.getElem?_eq_getElem hrl]
      injection hz with hz
      rw [hz]
    obtain ⟨zs, hzl, hz⟩ := choose_list (n * len) key
    refine ⟨some ad, len, cap, zs, rfl, hl, hm, hzl, fun h0 => ⟨ad, rfl, ?_, fun j hj => (hz j (by omega)).1⟩, fun j hj => wf_u64 (hz j (by omega)).2⟩
    have := World.block_lt_of_cell? W (ad.add 0) (hz 0 (by omega)).1
    rwa [add_block] at this
theorem okWide_agg_array {W : World} {r : Reach} {base n : Nat} {t u : TypeId} {v : Value} (ht : P.underlying t = some (.array n u)) (h : Value.okWide P W r base t v) : ∃ cs, v = .agg cs := by
  simp only [Value.okWide, ht] at h
  obtain ⟨cs, h1, _⟩ := h
  exact ⟨cs, h1⟩
/-- A line that came in by its value. -/
theorem view_line {W : World} {t u : TypeId} {v : Value} {d : DataW H} {p : List MemPlace} (ht : P.underlying t = some (.array 8 u)) (hu : P.underlying u = some (.int .u64)) (hc1 : P.cellsOf u = 1) (hct : P.cellsOf t = 8)
    {base : Nat} (hv : Value.okWide P W .any base t v) (h : DataW.Trod enc P W 0 (fun _ => true) true t v d p) (hagg : ∃ cs, v = .agg cs) :
    ∃ a b c d e f g i : Int, v = .agg #[.int .u64 a, .int .u64 b, .int .u64 c, .int .u64 d, .int .u64 e, .int .u64 f, .int .u64 g, .int .u64 i] ∧ Lim [a, b, c, d, e, f, g, i] 18446744073709551616 := by
  obtain ⟨cs, rfl⟩ := hagg
  obtain ⟨fl, hf⟩ := h
  obtain ⟨xs, m', _, _, hcl, hxl, hel⟩ := DataW.trod_array ht hf
  obtain ⟨l⟩ := cs
  have hcl' : l.length = 8 := by rw [hct] at hcl; exact hcl
  have key : ∀ i, i < 8 → ∃ z : Int, l[i]? = some (.int .u64 z) ∧ (Lit.int .u64 z).wf = true := fun i hi => by
    have h1 := hel i hi
    rw [hc1, Nat.mul_one] at h1
    have hone : ((Value.agg l.toArray).cells.toList.drop i).take 1 = [l[i]'(by omega)] := by
      show (l.drop i).take 1 = _
      rw [List.drop_eq_getElem_cons (by omega)]; rfl
    rw [hone, List.getElem?_eq_getElem (by omega)] at h1
    obtain ⟨z, hz, _, hw⟩ := DataW.trod_int hu h1
    refine ⟨z, ?_, hw⟩
    rw [List.getElem?_eq_getElem (by omega)]
    injection hz with hz
    rw [hz]
  obtain ⟨zs, hzl, hz⟩ := choose_list 8 key
  obtain ⟨a, b, c, d, e, f, g, i, rfl⟩ := LM.eightOf hzl
  refine ⟨a, b, c, d, e, f, g, i, ?_, fun j hj => wf_u64 (hz j (by simpa using hj)).2⟩
  clear hel hf hv hcl key
  match l, hcl', hz with
  | [c0, c1, c2, c3, c4, c5, c6, c7], _, hz =>
    have h0 := (hz 0 (by omega)).1
    have h1 := (hz 1 (by omega)).1
    have h2 := (hz 2 (by omega)).1
    have h3 := (hz 3 (by omega)).1
    have h4 := (hz 4 (by omega)).1
    have h5 := (hz 5 (by omega)).1
    have h6 := (hz 6 (by omega)).1
    have h7 := (hz 7 (by omega)).1
    simp at h0 h1 h2 h3 h4 h5 h6 h7
    rw [h0, h1, h2, h3, h4, h5, h6, h7]
end
end Go.Proofs.Ythbngenjcgclgaa
