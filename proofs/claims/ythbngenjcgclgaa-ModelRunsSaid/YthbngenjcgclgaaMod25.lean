/- Layer 8: the queue: append to it, wherever it begins in its block. Conditions: those that each theorem names. -/
import Derived.Test.YthbngenjcgclgaaMod24
namespace Go.Proofs.Ythbngenjcgclgaa
open Go.ChangeShapes Go.WideShapes Go.ChangeAt Go.RowKit Go.Lib
set_option linter.unusedVariables false
theorem take_mid (l m r : List Value) (o n : Nat) (ho : l.length = o + n) : ((l ++ m ++ r).drop o).take (n + m.length) = l.drop o ++ m := by
  rw [List.append_assoc, List.drop_append_of_le_length (by omega), List.take_append]
  have h1 : (l.drop o).length = n := by rw [List.length_drop]; omega
  rw [h1, List.take_of_length_le (by omega), show n + m.length - n = m.length by omega, List.take_left' rfl]
/-- append(q, z). -/
theorem q_append (w : World) (B : Nat) (v : Value) (zs : List Int) (z : Int) (h : QRow w B v zs) (hB : B ≤ w.heap.size) (hn : zs.length ≤ 1000000) :
    ∃ (A' : Option Addr) (c' : Nat) (w' : World), (∀ ty, (Builtin.append_ #[22, 22] ty #[v, .slice (some ⟨w.heap.size, 0, none⟩) 1 1]).run Try.prog (w.alloc (.cells #[.int .u32 z] 32)).drew = .ok (.slice A' (zs.length + 1) c') w') ∧ QRow w' B (.slice A' (zs.length + 1) c') (zs ++ [z]) ∧ Fr (fun b => v.ownBlock = some b) w w' ∧ (∀ g, (Value.slice A' (zs.length + 1) c').ownBlock = some g → v.ownBlock = some g ∨ w.heap.size ≤ g) := by
  obtain ⟨i0, hi0, hz0, hzs, hzb⟩ := info_parts u32_info
  have bx := Blk.new w 32 [.int .u32 z]
  have hnews : ∀ j u, [Value.int .u32 z][j]? = some u → (w.alloc (.cells #[.int .u32 z] 32)).drew.cell? ((⟨w.heap.size, 0, none⟩ : Addr).add j) = some u := fun j u hj => by
    rw [at0]
    exact (bx.cell j).trans hj
  have h1 : ∀ u ∈ [Value.int .u32 z], u.oneCell' = true := fun u hu => by simp at hu; subst hu; rfl
  have hf := run_firstCells_some (P := Try.prog) (w.alloc (.cells #[.int .u32 z] 32)).drew i0.size 1 ⟨w.heap.size, 0, none⟩ 1 1 [.int .u32 z] (by rw [hzs]; rfl) hnews
  have hsrc : Src Try.prog i0.size 22 (.slice (some ⟨w.heap.size, 0, none⟩) 1 1) 1 [.int .u32 z] (w.alloc (.cells #[.int .u32 z] 32)).drew := by
    rw [hzs]
    exact Src.ofSlice _ Try.underlying22 ⟨w.heap.size, 0, none⟩ 1 1 [.int .u32 z] rfl hnews h1
  have x0 := ((Ext.refl w).alloc (.cells #[.int .u32 z] 32)).drew
  have hws : (w.alloc (.cells #[.int .u32 z] 32)).drew.heap.size = w.heap.size + 1 := by show (w.alloc _).heap.size = _; simp
  generalize hW : (w.alloc (.cells #[.int .u32 z] 32)).drew = W at *
  by_cases hroom : ∃ g o c, v = .slice (some ⟨g, o, none⟩) zs.length c ∧ zs.length + 1 ≤ c
  · obtain ⟨g, o, c, rfl, hr⟩ := hroom
    rcases h with ⟨e, _⟩ | ⟨g', o', c', cur, e, hBg, hh, hnc, hcm, hcs, ht⟩
    · cases e
    · injection e with e1 _ e3
      injection e1 with e1
      injection e1 with e1 e2
      subst e1 e2 e3
      have hgl := lt_of_heap hh
      have hh' : W.heap[g]? = some (.cells cur 32 (0, 0)) := (x0.block g hgl).trans hh
      have hst := run_storeCells_at Try.prog g (o + zs.length) 32 [.int .u32 z] 0 cur W hh' (by simp; omega) h1
      simp only [Nat.add_zero] at hst
      refine ⟨some ⟨g, o, none⟩, c, W.setRow g (cur.toList.take (o + zs.length) ++ [Value.int .u32 z] ++ cur.toList.drop (o + zs.length + 1)).toArray, fun ty => ?_, ?_, ?_, fun q hq => Or.inl hq⟩
      · rw [hzs] at hf
        simp [Builtin.append_, run_underlying Try.underlying22, sizeOf, typeInfo, hi0, Builtin.lenOf, hr, hf, Addr.add_lit, hzs, hst]
      · refine Or.inr ⟨g, o, c, _, by simp, hBg, setRow_heap W g cur _ _ _ hh', by simp; omega, hcm, ?_, ?_⟩
        · simp
          omega
        · have hl : (cur.toList.take (o + zs.length)).length = o + zs.length := by rw [List.length_take]; simp; omega
          have e1 : (zs ++ [z]).length = zs.length + [Value.int .u32 z].length := by simp
          have e2 : (cur.toList.take (o + zs.length)).drop o = zs.map (Value.int .u32) := by
            rw [List.drop_take, ← ht, show o + zs.length - o = zs.length by omega]
          rw [e1]
          simp only
          rw [take_mid _ _ _ o zs.length hl, e2, List.map_append]
          rfl
      · exact (Fr.of_ext x0).trans ((setRow_fr' W g _).mono (fun q _ hq => by rw [hq]; rfl)) (fun q _ hq => hq)
  · obtain ⟨A, c, rfl, hnc, hcm, hI⟩ := h.form
    have hr : c < zs.length + 1 := by
      rcases h with ⟨e, h0⟩ | ⟨g', o', c', cur, e, _⟩
      · injection e with _ _ e3
        omega
      · injection e with e1 _ e3
        subst e1 e3
        rcases Nat.lt_or_ge c (zs.length + 1) with hlt | hge
        · exact hlt
        · exact absurd ⟨g', o', c, rfl, hge⟩ hroom
    have hold : (Builtin.firstCells i0.size zs.length (.slice A zs.length c)).run Try.prog W.drew = .ok (zs.map (Value.int .u32)).toArray W.drew := by
      rw [hzs]
      rcases Nat.eq_zero_or_pos zs.length with h0 | h0
      · have hz : zs = [] := List.length_eq_zero_iff.1 h0
        subst hz
        cases A with
        | none => exact run_firstCells_none W.drew 1 0 0 c
        | some ad => exact run_firstCells_some W.drew 1 0 ad 0 c [] rfl (fun j u hj => by simp at hj)
      · obtain ⟨ad, rfl, hb, hc⟩ := (hI.ext x0) h0
        refine run_firstCells_some W.drew 1 zs.length ad zs.length c (zs.map (Value.int .u32)) (by simp) (fun j u hj => ?_)
        have hj' : j < zs.length := by
          have := (List.getElem?_eq_some_iff.1 hj).1
          simpa using this
        show W.cell? (ad.add j) = some u
        rw [hc j hj', ← hj]
        simp [List.getD_eq_getElem?_getD, hj']
    have hrun := fun ty => run_append_grow_src W 22 22 ty 32 i0 _ Try.underlying22 hi0 hz0 A zs.length c (zs.map (Value.int .u32)) hold _ 1 [.int .u32 z] hsrc hr (by omega) (by rw [hzb]; exact growslice_fits hr (by omega))
    have hge := grownCap_ge W (zs.length + 1) c 32
    have hle := grownCap_le_maxLen W (zs.length + 1) c 32 (by unfold maxLen; omega)
    generalize grownCap W (zs.length + 1) c 32 = G at *
    refine ⟨_, G, _, hrun, ?_, (Fr.of_ext x0).trans (S' := fun _ => False) (Fr.of_ext (((Ext.refl W).drew).alloc _)) (fun _ _ hs => hs.elim), fun q hq => ?_⟩
    · refine Or.inr ⟨W.heap.size, 0, G, _, by simp, by omega, heap_alloc_new W.drew _, by simp; omega, hle, ?_, ?_⟩
      · simp [Builtin.zeroCells, Value.cells]
        omega
      · have e1 : (zs ++ [z]).length = (zs.map (Value.int .u32) ++ [Value.int .u32 z]).length := by simp
        rw [e1]
        simp only [Array.toList_append, List.drop_zero]
        rw [List.take_left' rfl, List.map_append]
        rfl
    · right
      have e : W.heap.size = q := by simpa [Value.ownBlock] using hq
      omega
end Go.Proofs.Ythbngenjcgclgaa
