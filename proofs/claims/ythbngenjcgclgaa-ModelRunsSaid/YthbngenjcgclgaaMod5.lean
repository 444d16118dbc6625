/- Layer 8: slices.DeleteFunc of pairs. Conditions: those that each theorem names. -/
import Derived.Test.YthbngenjcgclgaaMod2
namespace Go.Proofs.Ythbngenjcgclgaa
open Go.ChangeShapes Go.WideShapes Go.ChangeAt Go.RowKit
set_option linter.unusedVariables false
theorem idxP_yes (f : Pr → Bool) : ∀ (l : List Pr), 0 ≤ idxP l f → ∃ i : Nat, idxP l f = i ∧ i < l.length ∧ f (l.getD i (0, 0)) = true ∧ ∀ j, j < i → f (l.getD j (0, 0)) = false
  | [], h => absurd (show (0 : Int) ≤ -1 from h) (by decide)
  | p :: l, h => by
    by_cases hp : f p = true
    · exact ⟨0, by unfold idxP; rw [if_pos hp]; rfl, by simp, hp, fun j hj => absurd hj (by omega)⟩
    · have hf : f p = false := by simpa using hp
      have h' := h
      unfold idxP at h'
      rw [if_neg hp] at h'
      by_cases h1 : idxP l f = -1
      · rw [if_pos h1] at h'; exact absurd h' (by decide)
      · have := (idxP_ge f l).1
        obtain ⟨i, e, hi, ht, hn⟩ := idxP_yes f l (by omega)
        refine ⟨i + 1, ?_, by simpa using hi, ht, fun j hj => ?_⟩
        · unfold idxP
          rw [if_neg hp, if_neg h1, e]
          rfl
        · cases j with
          | zero => exact hf
          | succ j => exact hn j (by omega)
theorem idxP_no (f : Pr → Bool) : ∀ (l : List Pr), idxP l f = -1 → ∀ p ∈ l, f p = false
  | [], _, p, hp => absurd hp (by simp)
  | q :: l, h, p, hp => by
    by_cases hq : f q = true
    · unfold idxP at h; rw [if_pos hq] at h; exact absurd h (by decide)
    · have hf : f q = false := by simpa using hq
      unfold idxP at h
      rw [if_neg hq] at h
      by_cases h1 : idxP l f = -1
      · rcases List.mem_cons.1 hp with e | e
        · rw [e]; exact hf
        · exact idxP_no f l h1 p e
      · rw [if_neg h1] at h
        have := (idxP_ge f l).1
        omega
/-- Those that stay. -/
def left (f : Pr → Bool) (l : List Pr) : List Pr := l.filter (fun p => !f p)
theorem take_one (l : List Pr) (b : Nat) (hb : b < l.length) : l.take (b + 1) = l.take b ++ [l.getD b (0, 0)] := by
  rw [List.take_succ_eq_append_getElem hb, List.getD_eq_getElem?_getD, List.getElem?_eq_getElem hb]
  rfl
theorem left_step (f : Pr → Bool) (l : List Pr) (b : Nat) (hb : b < l.length) : left f (l.take (b + 1)) = left f (l.take b) ++ (if f (l.getD b (0, 0)) = true then [] else [l.getD b (0, 0)]) := by
  unfold left
  rw [take_one l b hb, List.filter_append]
  congr 1
  by_cases h : f (l.getD b (0, 0)) = true
  · rw [if_pos h, List.filter_cons_of_neg (by rw [h]; decide)]; rfl
  · rw [if_neg h, List.filter_cons_of_pos (by simpa using h)]; rfl
theorem left_none (f : Pr → Bool) (l : List Pr) (h : ∀ j, j < l.length → f (l.getD j (0, 0)) = false) : left f l = l := by
  unfold left
  rw [List.filter_eq_self]
  intro p hp
  obtain ⟨j, hj, rfl⟩ := List.getElem_of_mem hp
  have := h j hj
  rw [List.getD_eq_getElem?_getD, List.getElem?_eq_getElem hj] at this
  simpa using this
theorem left_len (f : Pr → Bool) (l : List Pr) (b : Nat) : (left f (l.take b)).length ≤ b := by
  unfold left
  exact Nat.le_trans (List.length_filter_le _ _) (by simp; omega)
theorem flat_set : ∀ (l : List Pr) (i : Nat) (x y : Int), flat (l.set i (x, y)) = ((flat l).set (i * 2) x).set (i * 2 + 1) y
  | [], _, _, _ => by simp [flat]
  | p :: l, 0, x, y => by simp [flat]
  | p :: l, i + 1, x, y => by
    rw [show (i + 1) * 2 = i * 2 + 1 + 1 by omega]
    simp [flat, flat_set l i x y]
theorem flat_take : ∀ (l : List Pr) (i : Nat), (flat l).take (i * 2) = flat (l.take i)
  | [], i => by simp [flat]
  | p :: l, 0 => by simp [flat]
  | p :: l, i + 1 => by
    rw [show (i + 1) * 2 = i * 2 + 1 + 1 by omega]
    simp [flat, flat_take l i]
theorem flat_rep : ∀ n : Nat, flat (List.replicate n (0, 0)) = List.replicate (n * 2) 0
  | 0 => rfl
  | n + 1 => by
    rw [List.replicate_succ, show (n + 1) * 2 = n * 2 + 1 + 1 by omega, List.replicate_succ, List.replicate_succ]
    simp [flat, flat_rep n]
section
variable {w : World} {B g c : Nat} {ps : List Pr}
theorem PRow.set {n : Nat} (h : PRow w B (.slice (some ⟨g, 0, none⟩) n c) ps) (i : Nat) (x y : Int) : PRow ((w.setCell ⟨g, i * 2, none⟩ (.int .u32 x)).setCell ⟨g, i * 2 + 1, none⟩ (.int .u32 y)) B (.slice (some ⟨g, 0, none⟩) n c) (ps.set i (x, y)) := by
  have hn : n = ps.length := by
    rcases h.2 with ⟨e, _⟩ | ⟨g', c', cur, e, _⟩
    · cases e
    · injection e
  subst hn
  unfold PRow at h ⊢
  rw [flat_set, List.length_set]
  exact (RowN.set h x).set y
theorem PRow.cut {n : Nat} (h : PRow w B (.slice (some ⟨g, 0, none⟩) n c) ps) (i : Nat) (hi : i ≤ ps.length) : PRow w B (.slice (some ⟨g, 0, none⟩) i c) (ps.take i) := by
  have hn : n = ps.length := by
    rcases h.2 with ⟨e, _⟩ | ⟨g', c', cur, e, _⟩
    · cases e
    · injection e
  subst hn
  have hl : (ps.take i).length = i := by simp; omega
  rcases h.2 with ⟨e, _⟩ | ⟨g', c', cur, e, hB, hh, hnc, hcm, hcs, ht⟩
  · cases e
  · injection e with e1 _ e3
    injection e1 with e1
    injection e1 with e1
    subst e1 e3
    refine ⟨by rw [hl, List.length_map, flat_len, hl], Or.inr ⟨g, c, cur, by rw [hl], hB, hh, by rw [hl]; omega, hcm, hcs, ?_⟩⟩
    rw [hl, ← flat_take, List.map_take, ← ht, List.take_take, Nat.min_eq_left (by omega)]
theorem PRow.cells {n : Nat} (h : PRow w B (.slice (some ⟨g, 0, none⟩) n c) ps) (i : Nat) (hi : i < ps.length) : w.cell? ⟨g, i * 2, none⟩ = some (.int .u32 (ps.getD i (0, 0)).1) ∧ w.cell? ⟨g, i * 2 + 1, none⟩ = some (.int .u32 (ps.getD i (0, 0)).2) ∧ w.frozen? ⟨g, i * 2, none⟩ = false ∧ w.frozen? ⟨g, i * 2 + 1, none⟩ = false ∧ g < w.heap.size ∧ n = ps.length := by
  have hn : n = ps.length := by
    rcases h.2 with ⟨e, _⟩ | ⟨g', c', cur, e, _⟩
    · cases e
    · injection e
  subst hn
  have c0 := RowN.cell (j := i * 2) h (by omega)
  have c1 := RowN.cell (j := i * 2 + 1) h (by omega)
  rw [(flat_get ps i).1] at c0
  rw [(flat_get ps i).2] at c1
  exact ⟨c0, c1, RowN.frozen h _, RowN.frozen h _, (World.ownsRow.lt h g rfl).2, rfl⟩
end
theorem setRow_fr' (w : World) (g : Nat) (cs : Array Value) : Fr (fun k => k = g) w (w.setRow g cs) :=
  ⟨rfl, rfl, rfl, by simp [World.setRow], fun k _ hk => by simp [World.setRow, Array.getElem?_modify, show ¬ g = k from fun e => hk e.symm]⟩
theorem pair_info : (Try.prog.info? 46).map (fun i => (i.zero, i.size, i.bytes)) = some (some (.agg #[.int .u32 0, .int .u32 0]), 2, 8) := by kernel_rfl
/-- clear(s[i:]), of pairs. -/
theorem clear_pairs {w : World} {B g n c : Nat} {ps : List Pr} (ty : TypeId) (h : PRow w B (.slice (some ⟨g, 0, none⟩) n c) ps) (i : Nat) (hi : i < ps.length) :
    ∃ w', (Builtin.clear_ #[23] ty #[.slice (some ⟨g, i * 2, none⟩) (n - i) (c - i)]).run Try.prog w = .ok (.tuple #[]) w' ∧ PRow w' B (.slice (some ⟨g, 0, none⟩) n c) (ps.take i ++ List.replicate (ps.length - i) (0, 0)) ∧ Fr (fun b => b = g) w w' := by
  obtain ⟨inf, hinf, hz0, hz1, hz2⟩ := info_parts pair_info
  have hn : n = ps.length := by
    rcases h.2 with ⟨e, _⟩ | ⟨g', c', cur, e, _⟩
    · cases e
    · injection e
  subst hn
  rcases h.2 with ⟨e, _⟩ | ⟨g', c', cur, e, hB, hh, hnc, hcm, hcs, ht⟩
  · cases e
  · injection e with e1 _ e3
    injection e1 with e1
    injection e1 with e1
    subst e1 e3
    obtain ⟨m, hm⟩ : ∃ m, ps.length - i = m + 1 := ⟨ps.length - i - 1, by omega⟩
    rw [hm]
    have hst := run_storeCells_at Try.prog g (i * 2) 46 (List.replicate ((m + 1) * 2) (Value.int .u32 0)) 0 cur w hh (by simp; omega) (by intro v hv; rw [(List.mem_replicate.1 hv).2]; rfl)
    rw [List.length_replicate, Nat.add_zero, List.append_assoc] at hst
    have hzc : (Builtin.zeroCells (Value.agg #[.int .u32 0, .int .u32 0]).cells (m + 1)).toList = List.replicate ((m + 1) * 2) (Value.int .u32 0) := by
      show (Builtin.zeroCells #[Value.int .u32 0, .int .u32 0] (m + 1)).toList = _
      unfold Builtin.zeroCells
      apply List.ext_getElem
      · simp
      · intro j h1 h2
        simp
        rcases Nat.mod_two_eq_zero_or_one j with e | e <;> simp [e]
    refine ⟨w.setRow g (cur.toList.take (i * 2) ++ (List.replicate ((m + 1) * 2) (Value.int .u32 0) ++ cur.toList.drop (i * 2 + (m + 1) * 2))).toArray, ?_, ?_, setRow_fr' w g _⟩
    · simp [Builtin.clear_, run_underlying Try.underlying23, zeroValue, typeInfo, hinf, hz0]
      rw [hzc, hst]
      rfl
    · have hl : (ps.take i ++ List.replicate (m + 1) (0, 0)).length = ps.length := by simp; omega
      refine ⟨by rw [hl, List.length_map, flat_len, hl], Or.inr ⟨g, c, _, by rw [hl], hB, setRow_heap w g cur _ _ _ hh, by rw [hl]; exact hnc, hcm, ?_, ?_⟩⟩
      · simp; omega
      · rw [hl]
        rw [← List.append_assoc, List.take_append_of_le_length (by simp; omega), List.take_of_length_le (by simp; omega), flat_append, flat_rep, List.map_append, ← flat_take, List.map_take, ← ht, List.take_take, Nat.min_eq_left (by omega), List.map_replicate]
end Go.Proofs.Ythbngenjcgclgaa
