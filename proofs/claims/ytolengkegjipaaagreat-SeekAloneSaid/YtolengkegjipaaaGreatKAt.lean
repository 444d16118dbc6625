/- Which configs the statements go through. Conditions: those that each theorem names. -/
import Derived.Test.YtolengkegjipaaaGreatLay9
import Derived.Test.YtolengkegjipaaaGreatKNm
import Derived.Lib.QuietBelow
import Derived.BigQuiet
import Derived.IntWalk
import Derived.Deep.QuietTactic
namespace Go.Proofs.YtolengkegjipaaaGreat
open Go.ChangeShapes Go.WideShapes Go.ChangeAt Go.RowKit
set_option linter.unusedVariables false
end Go.Proofs.YtolengkegjipaaaGreat


/- Where everything lies, word by word: the walk. Conditions: those that each theorem names. -/
namespace Go.Proofs.YtolengkegjipaaaGreat
open Go.ChangeShapes Go.WideShapes Go.ChangeAt Go.RowKit
set_option linter.unusedVariables false
/-- The cells of the name at a place of a row. -/
theorem Names.cells {w : World} {B g n c : Nat} {L : List NM.Nm} (h : Names w B (.slice (some ⟨g, 0, none⟩) n c) L) (hn : L.length = n) (i : Nat) (hi : i < n) :
    w.cell? ⟨g, 3 * i, none⟩ = some (.int .i64 (L.getD i (0, 0, 0)).1) ∧ w.cell? ⟨g, 3 * i + 1, none⟩ = some (.int .i64 (L.getD i (0, 0, 0)).2.1) ∧ w.cell? ⟨g, 3 * i + 2, none⟩ = some (.int .i64 (L.getD i (0, 0, 0)).2.2) := by
  subst hn
  obtain ⟨e1, e2, e3⟩ := NM.flat_at L i hi
  refine ⟨?_, ?_, ?_⟩
  · rw [← e1]; exact RowN.cell h (by omega)
  · rw [← e2]; exact RowN.cell h (by omega)
  · rw [← e3]; exact RowN.cell h (by omega)
theorem Names.at_ {w : World} {B : Nat} {v : Value} {L : List NM.Nm} (h : Names w B v L) (n : Nat) (hn : L.length = n) (h0 : 0 < n) : ∃ g c, v = .slice (some ⟨g, 0, none⟩) n c ∧ n ≤ c ∧ g < w.heap.size := by
  subst hn
  obtain ⟨g, c, hv, hc, _, _, hg⟩ := RowN.at_ h h0
  exact ⟨g, c, hv, hc, hg⟩
end Go.Proofs.YtolengkegjipaaaGreat


/- A name's word, as the document's answer looks for it. Conditions: those that each theorem names. -/
namespace Go.Proofs.YtolengkegjipaaaGreat
open Go.ChangeShapes Go.WideShapes Go.ChangeAt Go.RowKit
set_option linter.unusedVariables false
namespace NM
theorem getD_mem {L : List Nm} {x : Nm} (h : x ∈ L) : ∃ j, j < L.length ∧ L.getD j (0, 0, 0) = x := by
  obtain ⟨j, hj, e⟩ := List.mem_iff_getElem.1 h
  exact ⟨j, hj, by rw [List.getD_eq_getElem?_getD, List.getElem?_eq_getElem hj]; exact e⟩
theorem not_mem {L : List Nm} {x : Nm} (h : ∀ j, j < L.length → ¬ L.getD j (0, 0, 0) = x) : x ∉ L := fun hm => by
  obtain ⟨j, hj, e⟩ := getD_mem hm
  exact h j hj e
theorem mem_bucks (t s l b i : Nat) (h : i < b) : ((5, (i : Int), 0) : Nm) ∈ last t s l b := by
  unfold last
  simp only [List.mem_append]
  exact Or.inl (Or.inl (Or.inl (Or.inr (Or.inl (List.mem_map.2 ⟨i, List.mem_range.2 h, rfl⟩)))))
theorem mem_cell (t s l b i : Nat) (h : i < t) : ((6, (i : Int), 0) : Nm) ∈ last t s l b := by
  unfold last
  simp only [List.mem_append]
  exact Or.inl (Or.inl (Or.inr (List.mem_flatMap.2 ⟨i, List.mem_range.2 h, by simp [thread]⟩)))
theorem mem_intent (t s l b i : Nat) (h : i < t) : ((7, (i : Int), 0) : Nm) ∈ last t s l b := by
  unfold last
  simp only [List.mem_append]
  exact Or.inl (Or.inl (Or.inr (List.mem_flatMap.2 ⟨i, List.mem_range.2 h, by simp [thread]⟩)))
theorem mem_log (t s l b i j : Nat) (h : i < t) (hj : j < l) : ((8, (i : Int), (j : Int)) : Nm) ∈ last t s l b := by
  unfold last
  simp only [List.mem_append]
  exact Or.inl (Or.inr (List.mem_flatMap.2 ⟨i, List.mem_range.2 h, List.mem_append.2 (Or.inl (List.mem_map.2 ⟨j, List.mem_range.2 hj, rfl⟩))⟩))
theorem mem_slot (t s l b i k : Nat) (h : i < s) (hk : k < 5) : ((((9 + k : Nat) : Int), (i : Int), 0) : Nm) ∈ last t s l b := by
  unfold last
  simp only [List.mem_append]
  exact Or.inr (List.mem_flatMap.2 ⟨i, List.mem_range.2 h, List.mem_append.2 (Or.inl (List.mem_map.2 ⟨k, List.mem_range.2 hk, rfl⟩))⟩)
theorem mem_ann (t s i : Nat) (h : i < t) : ((16, (i : Int), 0) : Nm) ∈ pass t s := by
  unfold pass
  simp only [List.mem_append]
  exact Or.inl (Or.inr (List.mem_map.2 ⟨i, List.mem_range.2 h, rfl⟩))
theorem mem_aft (t s i : Nat) (h : i < s) : ((17, (i : Int), 0) : Nm) ∈ pass t s := by
  unfold pass
  simp only [List.mem_append]
  exact Or.inr (List.mem_map.2 ⟨i, List.mem_range.2 h, rfl⟩)
theorem wordAt_out {v a d m n pl : Int} (h : ¬ (0 ≤ n ∧ n < m)) : wordAt v a d m n pl = v * 8 := if_neg h
theorem nat_of {a : Int} {n : Nat} (h : 0 ≤ a ∧ a < (n : Int)) : ∃ i : Nat, i < n ∧ a = (i : Int) := ⟨a.toNat, by omega, by omega⟩
/-- A name that is nowhere: its number is that of no word. -/
theorem told_none (t s l b : Nat) (k a c : Int) (h5 : 5 ≤ k) (h17 : k ≤ 17) (hc : k ≠ 8 → c = 0) (ha : k = 14 ∨ k = 15 → a = 0)
    (hL : (k, a, c) ∉ last t s l b) (hM : (k, a, c) ∉ pass t s) : toldF (layF t s l b) k a c = layF t s l b 4 * 8 := by
  have hk : k = 5 ∨ k = 6 ∨ k = 7 ∨ k = 8 ∨ k = 9 ∨ k = 10 ∨ k = 11 ∨ k = 12 ∨ k = 13 ∨ k = 14 ∨ k = 15 ∨ k = 16 ∨ k = 17 := by omega
  rcases hk with rfl | rfl | rfl | rfl | rfl | rfl | rfl | rfl | rfl | rfl | rfl | rfl | rfl
  · obtain rfl := hc (by decide)
    refine wordAt_out fun h => ?_
    obtain ⟨i, hi, rfl⟩ := nat_of (n := b) h
    exact hL (mem_bucks t s l b i hi)
  · obtain rfl := hc (by decide)
    refine wordAt_out fun h => ?_
    obtain ⟨i, hi, rfl⟩ := nat_of (n := t) h
    exact hL (mem_cell t s l b i hi)
  · obtain rfl := hc (by decide)
    refine wordAt_out fun h => ?_
    obtain ⟨i, hi, rfl⟩ := nat_of (n := t) h
    exact hL (mem_intent t s l b i hi)
  · show logAt _ _ _ t l a c = _
    unfold logAt
    by_cases hj : 0 ≤ c ∧ c < (l : Int)
    · rw [if_pos hj]
      refine wordAt_out fun h => ?_
      obtain ⟨i, hi, rfl⟩ := nat_of (n := t) h
      obtain ⟨j, hj2, rfl⟩ := nat_of (n := l) hj
      exact hL (mem_log t s l b i j hi hj2)
    · rw [if_neg hj]
  · obtain rfl := hc (by decide)
    refine wordAt_out fun h => ?_
    obtain ⟨i, hi, rfl⟩ := nat_of (n := s) h
    exact hL (mem_slot t s l b i 0 hi (by decide))
  · obtain rfl := hc (by decide)
    refine wordAt_out fun h => ?_
    obtain ⟨i, hi, rfl⟩ := nat_of (n := s) h
    exact hL (mem_slot t s l b i 1 hi (by decide))
  · obtain rfl := hc (by decide)
    refine wordAt_out fun h => ?_
    obtain ⟨i, hi, rfl⟩ := nat_of (n := s) h
    exact hL (mem_slot t s l b i 2 hi (by decide))
  · obtain rfl := hc (by decide)
    refine wordAt_out fun h => ?_
    obtain ⟨i, hi, rfl⟩ := nat_of (n := s) h
    exact hL (mem_slot t s l b i 3 hi (by decide))
  · obtain rfl := hc (by decide)
    refine wordAt_out fun h => ?_
    obtain ⟨i, hi, rfl⟩ := nat_of (n := s) h
    exact hL (mem_slot t s l b i 4 hi (by decide))
  · obtain rfl := hc (by decide)
    obtain rfl := ha (Or.inl rfl)
    exact absurd (by unfold pass; simp) hM
  · obtain rfl := hc (by decide)
    obtain rfl := ha (Or.inr rfl)
    exact absurd (by unfold pass; simp) hM
  · obtain rfl := hc (by decide)
    refine wordAt_out fun h => ?_
    obtain ⟨i, hi, rfl⟩ := nat_of (n := t) h
    exact hM (mem_ann t s i hi)
  · obtain rfl := hc (by decide)
    refine wordAt_out fun h => ?_
    obtain ⟨i, hi, rfl⟩ := nat_of (n := s) h
    exact hM (mem_aft t s i hi)
end NM

theorem ext_drewN {a b : World} (h : Ext a b) (n : Nat) : Ext a (b.drewN n) := h.trans ⟨rfl, rfl, rfl, Nat.le_refl _, fun _ _ => rfl⟩
theorem eq_name (a b c a' b' c' : Int) (w : World) :
    (Op.equalIn 10000 57 (.agg #[.int .i64 a, .int .i64 b, .int .i64 c]) (.agg #[.int .i64 a', .int .i64 b', .int .i64 c'])).run Tryz.prog w = .ok (decide ([a, b, c] = [a', b', c'])) w := by
  have u3 := Tryz.underlying3
  have a3 := Tryz.isAgg3
  have z3 := Tryz.sizeOf3
  rw [show (10000 : Nat) = 9999 + 1 from rfl, run_equalIn_struct _ _ _ _ _ (by kernel_rfl) (by kernel_rfl)]
  simp only [Program.fieldsOf, Tryz.underlying57]
  go_simp
  by_cases h1 : a = a'
  · by_cases h2 : b = b'
    · by_cases h3 : c = c'
      · simp [h1, h2, h3]
      · simp [h1, h2, h3]
    · simp [h1, h2]
  · simp [h1]
theorem eqn_yes (a b c : Int) (w : World) : (Op.equalIn 10000 57 (.agg #[.int .i64 a, .int .i64 b, .int .i64 c]) (.agg #[.int .i64 a, .int .i64 b, .int .i64 c])).run Tryz.prog w = .ok true w := by rw [eq_name]; simp
theorem eqn_no (a b c a' b' c' : Int) (h : ¬ (a, b, c) = (a', b', c')) (w : World) : (Op.equalIn 10000 57 (.agg #[.int .i64 a, .int .i64 b, .int .i64 c]) (.agg #[.int .i64 a', .int .i64 b', .int .i64 c'])).run Tryz.prog w = .ok false w := by
  rw [eq_name, decide_eq_false]
  intro e
  simp only [List.cons.injEq, and_true] at e
  obtain ⟨rfl, rfl, rfl⟩ := e
  exact h rfl
/-- The cells of a name at a block. -/
def C3 (w : World) (g : Nat) (a b c : Int) : Prop := w.cell? ⟨g, 0, none⟩ = some (.int .i64 a) ∧ w.cell? ⟨g, 1, none⟩ = some (.int .i64 b) ∧ w.cell? ⟨g, 2, none⟩ = some (.int .i64 c)
theorem C3.ext {w w' : World} {g : Nat} {a b c : Int} (h : C3 w g a b c) (x : Ext w w') (hg : g < w.heap.size) : C3 w' g a b c := by
  obtain ⟨h0, h1, h2⟩ := h
  exact ⟨(Below.cell x.below (by exact hg)).trans h0, (Below.cell x.below (by exact hg)).trans h1, (Below.cell x.below (by exact hg)).trans h2⟩
theorem C3.new (w : World) (a b c : Int) (t : TypeId) : C3 (w.alloc (.cells #[.int .i64 a, .int .i64 b, .int .i64 c] t)) w.heap.size a b c := by
  unfold C3
  refine ⟨?_, ?_, ?_⟩ <;> (rw [cell_of_row _ _ _ _ _ _ (heap_alloc_new w _)]; rfl)
set_option maxRecDepth 100000 in
set_option maxHeartbeats 4000000 in
theorem at_walk (t s l b N P : Nat) (ka kb kc T : Int) (L M : List NM.Nm) (w : World) (HN : Hid (L.length = N)) (HPn : Hid (M.length = P)) (hN0 : 0 < N) (hNb : N ≤ 8000) (hP0 : 0 < P) (hPb : P ≤ 1000)
    (H1 : Hid (∀ j, j < N → L.getD j (0, 0, 0) = (ka, kb, kc) → T = (j : Int))) (H2 : Hid (∀ j, j < P → M.getD j (0, 0, 0) = (ka, kb, kc) → T = -1 - (j : Int)))
    (H3 : Hid ((∀ j, j < N → ¬ L.getD j (0, 0, 0) = (ka, kb, kc)) → (∀ j, j < P → ¬ M.getD j (0, 0, 0) = (ka, kb, kc)) → T = (N : Int)))
    (HLa : Hid (∀ W, Calls Tryz.prog 24 #[.agg #[.int .i64 t, .int .i64 s, .int .i64 l, .int .i64 b]] W fun e w' => ∃ v, e = .returned v ∧ Names w' W.heap.size v L ∧ Ext W w'))
    (HPa : Hid (∀ W, Calls Tryz.prog 25 #[.agg #[.int .i64 t, .int .i64 s, .int .i64 l, .int .i64 b]] W fun e w' => ∃ v, e = .returned v ∧ Names w' W.heap.size v M ∧ Ext W w')) :
    Calls Tryz.prog 20 #[.agg #[.int .i64 t, .int .i64 s, .int .i64 l, .int .i64 b], .agg #[.int .i64 ka, .int .i64 kb, .int .i64 kc]] w fun e w' => e = .returned (.int .i64 T) ∧ Ext w w' := by
  go_enter Tryz.func20, Tryz.ntmps20
  go_wp2_with fail
  refine (HLa.out _).mono ?_
  rintro e w1 ⟨va, rfl, ra, x1⟩
  have p2 := ((C4.new w t s l b 23).alloc (by simp) (.cells #[.int .i64 ka, .int .i64 kb, .int .i64 kc] 57)).ext x1 (by simp; omega)
  have p3 : C3 w1 (w.heap.size + 1) ka kb kc := by
    have h := (C3.new (w.alloc (.cells #[.int .i64 t, .int .i64 s, .int .i64 l, .int .i64 b] 23)) ka kb kc 57).ext x1 (by simp)
    simpa using h
  have xa := (ext2 w _ _).trans x1
  have z1 : w.heap.size + 1 < w1.heap.size := by have := x1.size; simp at this; omega
  have HC := Lib.hid p2
  have HD := Lib.hid p3
  obtain ⟨ga, ca, rfl, hca, hga⟩ := ra.at_ N HN.out hN0
  have HA := Lib.hid ra
  clear HLa ra x1 p2 p3
  go_wp2_with fail
  go_loopw [6] (fun i wr => ∃ k : Nat, k ≤ N ∧ i = .int .i64 k ∧ Ext w1 wr ∧ Hid (∀ j, j < k → ¬ L.getD j (0, 0, 0) = (ka, kb, kc))) (fun i _ => N - (intOf i).toNat)
  case atStart => exact ⟨0, Nat.zero_le _, rfl, Ext.refl _, Lib.hid (fun j hj => by omega)⟩
  case round =>
    obtain ⟨k, hk, rfl, xr, HK⟩ := hrel
    by_cases hk2 : k < N
    · obtain ⟨e0, e1, e2⟩ := (HA.out.ext xr).cells HN.out k hk2
      obtain ⟨c0, c1, c2⟩ := HD.out.ext xr z1
      have hk3 : (k : Int) < (N : Int) := by omega
      have hk4 : (0 : Int) ≤ (k : Int) := by omega
      by_cases hq : L.getD k (0, 0, 0) = (ka, kb, kc)
      · have HT := Lib.hid (H1.out k hk2 hq)
        rw [hq] at e0 e1 e2
        simp only at e0 e1 e2
        have g0 : wr.cell? ⟨ga, k * 3, none⟩ = some (.int .i64 ka) := by rw [Nat.mul_comm]; exact e0
        have g1 : wr.cell? ⟨ga, k * 3 + 1, none⟩ = some (.int .i64 kb) := by rw [Nat.mul_comm]; exact e1
        have g2 : wr.cell? ⟨ga, k * 3 + 2, none⟩ = some (.int .i64 kc) := by rw [Nat.mul_comm]; exact e2
        have heq := fun W => eqn_yes ka kb kc W
        have xs := xa.trans xr
        clear hq HK
        go_wp2_with fail
        go_quiet (fail)
        go_wp2_with fail
        go_ret
        exact ⟨reti HT.out.symm, ext_drewN xs _⟩
      · have HK2 := Lib.hid (fun j (hj : j < k + 1) => show ¬ L.getD j (0, 0, 0) = (ka, kb, kc) from if e : j = k then by rw [e]; exact hq else HK.out j (by omega))
        generalize L.getD k (0, 0, 0) = nn at e0 e1 e2 hq
        obtain ⟨na, nb, nc⟩ := nn
        simp only at e0 e1 e2
        have g0 : wr.cell? ⟨ga, k * 3, none⟩ = some (.int .i64 na) := by rw [Nat.mul_comm]; exact e0
        have g1 : wr.cell? ⟨ga, k * 3 + 1, none⟩ = some (.int .i64 nb) := by rw [Nat.mul_comm]; exact e1
        have g2 : wr.cell? ⟨ga, k * 3 + 2, none⟩ = some (.int .i64 nc) := by rw [Nat.mul_comm]; exact e2
        have heq := fun W => eqn_no _ _ _ _ _ _ hq W
        clear hq HK
        go_wp2_with fail
        go_quiet (fail)
        go_wp2_with fail
        go_roundw
        case rel => exact ⟨k + 1, by omega, by go_num, ext_drewN xr _, Lib.hid (fun j hj => HK2.out j hj)⟩
        case measure => simp [intOf]; omega
    · have HKN := Lib.hid (fun j (hj : j < N) => HK.out j (by omega))
      have hk5 : ¬ (k : Int) < (N : Int) := by omega
      have HC2 := Lib.hid (HC.out.ext xr (by omega))
      have HD2 := Lib.hid (HD.out.ext xr z1)
      have xb := xa.trans xr
      have z2 : w.heap.size + 1 < wr.heap.size := Nat.lt_of_lt_of_le z1 xr.size
      clear HK HA HC HD xr xa z1
      generalize wr = w2 at *
      obtain ⟨d0, d1, d2, d3⟩ := HC2.out
      go_wp2_with fail
      refine (HPa.out _).mono ?_
      rintro e w3 ⟨vb, rfl, rb, x3⟩
      have HD3 := Lib.hid (HD2.out.ext x3 z2)
      have xc := xb.trans x3
      have z3 : w.heap.size + 1 < w3.heap.size := Nat.lt_of_lt_of_le z2 x3.size
      obtain ⟨gb, cb, rfl, hcb, hgb⟩ := rb.at_ P HPn.out hP0
      have HB := Lib.hid rb
      clear d0 d1 d2 d3 HC2 HD2 x3 xb z2 rb HPa
      go_wp2_with fail
      go_loopw [8] (fun i wr => ∃ q : Nat, q ≤ P ∧ i = .int .i64 q ∧ Ext w3 wr ∧ Hid (∀ j, j < q → ¬ M.getD j (0, 0, 0) = (ka, kb, kc))) (fun i _ => P - (intOf i).toNat)
      case atStart => exact ⟨0, Nat.zero_le _, rfl, Ext.refl _, Lib.hid (fun j hj => by omega)⟩
      case round =>
        obtain ⟨q, hq1, rfl, xr, HK⟩ := hrel
        by_cases hq2 : q < P
        · obtain ⟨e0, e1, e2⟩ := (HB.out.ext xr).cells HPn.out q hq2
          obtain ⟨c0, c1, c2⟩ := HD3.out.ext xr z3
          have hq3 : (q : Int) < (P : Int) := by omega
          have hq4 : (0 : Int) ≤ (q : Int) := by omega
          by_cases hq : M.getD q (0, 0, 0) = (ka, kb, kc)
          · have HT := Lib.hid (H2.out q hq2 hq)
            rw [hq] at e0 e1 e2
            simp only at e0 e1 e2
            have g0 : wr.cell? ⟨gb, q * 3, none⟩ = some (.int .i64 ka) := by rw [Nat.mul_comm]; exact e0
            have g1 : wr.cell? ⟨gb, q * 3 + 1, none⟩ = some (.int .i64 kb) := by rw [Nat.mul_comm]; exact e1
            have g2 : wr.cell? ⟨gb, q * 3 + 2, none⟩ = some (.int .i64 kc) := by rw [Nat.mul_comm]; exact e2
            have heq := fun W => eqn_yes ka kb kc W
            have xs := xc.trans xr
            clear hq HK
            go_wp2_with fail
            go_quiet (fail)
            go_wp2_with fail
            go_ret
            exact ⟨reti HT.out.symm, ext_drewN xs _⟩
          · have HK2 := Lib.hid (fun j (hj : j < q + 1) => show ¬ M.getD j (0, 0, 0) = (ka, kb, kc) from if e : j = q then by rw [e]; exact hq else HK.out j (by omega))
            generalize M.getD q (0, 0, 0) = nn at e0 e1 e2 hq
            obtain ⟨na, nb, nc⟩ := nn
            simp only at e0 e1 e2
            have g0 : wr.cell? ⟨gb, q * 3, none⟩ = some (.int .i64 na) := by rw [Nat.mul_comm]; exact e0
            have g1 : wr.cell? ⟨gb, q * 3 + 1, none⟩ = some (.int .i64 nb) := by rw [Nat.mul_comm]; exact e1
            have g2 : wr.cell? ⟨gb, q * 3 + 2, none⟩ = some (.int .i64 nc) := by rw [Nat.mul_comm]; exact e2
            have heq := fun W => eqn_no _ _ _ _ _ _ hq W
            clear hq HK
            go_wp2_with fail
            go_quiet (fail)
            go_wp2_with fail
            go_roundw
            case rel => exact ⟨q + 1, by omega, by go_num, ext_drewN xr _, Lib.hid (fun j hj => HK2.out j hj)⟩
            case measure => simp [intOf]; omega
        · have HT := Lib.hid (H3.out HKN.out (fun j hj => HK.out j (by omega)))
          have hq5 : ¬ (q : Int) < (P : Int) := by omega
          clear HK
          go_wp2_with fail
          go_ret
          exact ⟨reti HT.out.symm, xc.trans xr⟩
theorem at_any (t s l b : Nat) (ka kb kc : Int) (w : World) (ht : t ≤ 12) (hs : s ≤ 60) (hs1 : 1 ≤ s) (hl1 : l ≤ 64) (hb1 : b ≤ 64) (h5 : 5 ≤ ka) (h17 : ka ≤ 17) (hc : ka ≠ 8 → kc = 0) (ha : ka = 14 ∨ ka = 15 → kb = 0) :
    Calls Tryz.prog 20 #[.agg #[.int .i64 t, .int .i64 s, .int .i64 l, .int .i64 b], .agg #[.int .i64 ka, .int .i64 kb, .int .i64 kc]] w fun e w' => e = .returned (.int .i64 (toldF (layF t s l b) ka kb kc)) ∧ Ext w w' := by
  have hQb : (l + 7) / 8 * t ≤ 8 * 12 := Nat.mul_le_mul (by omega) ht
  have hlen := NM.last_len t s l b
  have hpen := NM.pass_len t s
  refine at_walk t s l b (NM.last t s l b).length (NM.pass t s).length ka kb kc _ (NM.last t s l b) (NM.pass t s) w (Lib.hid rfl) (Lib.hid rfl) (by omega) (by omega) (by omega) (by omega) (Lib.hid (fun j hj e => ?_)) (Lib.hid (fun j hj e => ?_)) (Lib.hid (fun hL hM => ?_)) (Lib.hid (fun W => lasting_any t s l b W (by omega) (by omega) hl1 hb1)) (Lib.hid (fun W => passing_any t s l b W (by omega) (by omega)))
  · have hf := NM.fits_last t s l b j hj
    rw [e] at hf
    simp only at hf
    rcases hf with hf | ⟨_, _, hf⟩
    · omega
    · rw [hf]; omega
  · have hf := NM.fits_pass t s l b j hj
    rw [e] at hf
    exact hf.2.2
  · rw [NM.told_none t s l b ka kb kc h5 h17 hc ha (NM.not_mem hL) (NM.not_mem hM), hlen]
    show (5 + ((b : Int) + 7) / 8 + t + t * (((l : Int) + 7) / 8) + s) * 8 = _
    have e1 : ((l : Int) + 7) / 8 = (((l + 7) / 8 : Nat) : Int) := by omega
    have e2 : ((b : Int) + 7) / 8 = (((b + 7) / 8 : Nat) : Int) := by omega
    rw [e1, e2, Int.mul_comm (t : Int)]
    generalize (l + 7) / 8 = nl
    generalize (b + 7) / 8 = nb
    simp only [Int.natCast_add, Int.natCast_mul]
    have e8 : ((8 : Nat) : Int) = 8 := rfl
    rw [e8]
    generalize (nl : Int) * (t : Int) = z
    omega
end Go.Proofs.YtolengkegjipaaaGreat

