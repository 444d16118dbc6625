/- word and together of package lines. Conditions: those that each theorem names. -/
import Derived.Test.YtcelhllhdkminaaLineEq
import Derived.Laws.BitsAllLaws
import Derived.Laws.BitsLemmas
import Derived.Laws.CopyRow
namespace Go.Proofs.Ytcelhllhdkminaa
open Go.ChangeShapes Go.WideShapes Go.ChangeAt Go.RowKit
set_option linter.unusedVariables false
theorem LM.pow_lim {y : Int} {k : Nat} (h : y < 256 ^ k) (hk : k < 8) : y < 18446744073709551616 := by
  have h3 : (256 : Nat) ^ k ≤ 256 ^ 8 := Nat.pow_le_pow_right (by omega) (by omega)
  have h4 : ((256 ^ k : Nat) : Int) ≤ ((256 ^ 8 : Nat) : Int) := Int.ofNat_le.2 h3
  rw [Int.natCast_pow] at h4
  exact Int.lt_of_lt_of_le h h4
theorem LM.or_word (x y : Int) (k : Nat) (hk : k < 8) (hx : 0 ≤ x ∧ x < 256) (hy : 0 ≤ y ∧ y < 256 ^ k) :
    bits .or .u64 y (IntKind.u64.wrap (x * 2 ^ (k * 8))) = y + x * 256 ^ k := by
  obtain ⟨a, rfl⟩ := Int.eq_ofNat_of_zero_le hx.1
  obtain ⟨b, rfl⟩ := Int.eq_ofNat_of_zero_le hy.1
  have hp : (2 : Nat) ^ (k * 8) = 256 ^ k := by rw [Nat.mul_comm, Nat.pow_mul]
  have hb : b < 2 ^ (k * 8) := by
    rw [hp]
    have h := hy.2
    have e : (256 : Int) ^ k = ((256 ^ k : Nat) : Int) := by rw [Int.natCast_pow]; rfl
    rw [e] at h
    omega
  have hlt : a * 2 ^ (k * 8) < 18446744073709551616 := by
    have h1 : a * 2 ^ (k * 8) ≤ 255 * 2 ^ (k * 8) := Nat.mul_le_mul_right _ (by omega)
    have h2 : (2 : Nat) ^ (k * 8) ≤ 2 ^ 56 := Nat.pow_le_pow_right (by omega) (by omega)
    omega
  have hb2 : b < 18446744073709551616 := by
    have h2 : (2 : Nat) ^ (k * 8) ≤ 2 ^ 56 := Nat.pow_le_pow_right (by omega) (by omega)
    omega
  have e1 : (a : Int) * 2 ^ (k * 8) = ((a * 2 ^ (k * 8) : Nat) : Int) := by rw [Int.natCast_mul, Int.natCast_pow]; rfl
  have e2 : (a : Int) * 256 ^ k = ((a * 2 ^ (k * 8) : Nat) : Int) := by rw [hp, Int.natCast_mul, Int.natCast_pow]; rfl
  rw [e2, e1, IntKind.wrap_u64, Int.emod_eq_of_lt (by omega) (by omega), u64_or_nat b _ hb2 hlt]
  have e3 := Nat.two_pow_add_eq_or_of_lt hb a
  rw [Nat.or_comm, Nat.mul_comm a, ← e3]
  omega
theorem setRow_new (w : World) (cs cs' : Array Value) (t : TypeId) : (w.alloc (.cells cs t)).setRow w.heap.size cs' = w.alloc (.cells cs' t) := by
  unfold World.setRow World.alloc
  congr 1
  apply Array.ext
  · simp
  · intro i h1 h2
    simp only [Array.getElem_modify, Array.getElem_push]
    simp only [Array.size_modify, Array.size_push] at h1
    by_cases hi : i = w.heap.size
    · subst hi; simp
    · rw [if_neg (fun h => hi h.symm)]
      rw [dif_pos (by omega), dif_pos (by omega)]
theorem ints_cells {w : World} {k : IntKind} {ad : Addr} {zs : List Int} (h : Ints w k (some ad) zs) : ∀ j v, (zs.map (Value.int k))[j]? = some v → w.cell? (ad.add j) = some v := fun j v hv => by
  have hj : j < zs.length := by
    rcases Nat.lt_or_ge j zs.length with h1 | h1
    · exact h1
    · rw [List.getElem?_eq_none (by simpa using h1)] at hv; cases hv
  obtain ⟨ad', e, _, hc⟩ := h (by omega)
  injection e with e
  subst e
  rw [hc j hj]
  simp [List.getD_eq_getElem?_getD, hj] at hv ⊢
  exact hv
set_option maxRecDepth 100000 in
set_option maxHeartbeats 400000 in
theorem together_of (ad : Addr) (c : Nat) (a0 a1 a2 a3 a4 a5 a6 a7 : Int) (w : World) (hA : Ints w .u64 (some ad) [a0, a1, a2, a3, a4, a5, a6, a7]) :
    Calls Try.prog 101 #[.slice (some ad) 8 c] w fun e w' => e = .returned (.agg #[.int .u64 a0, .int .u64 a1, .int .u64 a2, .int .u64 a3, .int .u64 a4, .int .u64 a5, .int .u64 a6, .int .u64 a7]) ∧ Ext w w' := by
  have hcp : (Builtin.copy_ #[22, 22] 3 #[.slice (some ⟨w.heap.size + 1, 0, none⟩) 8 8, .slice (some ad) 8 c]).run Try.prog ((w.alloc (.cells z8 131)).alloc (.cells z8 131)) = .ok (goInt 8) ((w.alloc (.cells z8 131)).alloc (.cells #[.int .u64 a0, .int .u64 a1, .int .u64 a2, .int .u64 a3, .int .u64 a4, .int .u64 a5, .int .u64 a6, .int .u64 a7] 131)) := by
    have h := run_copy_row (P := Try.prog) ((w.alloc (.cells z8 131)).alloc (.cells z8 131)) 22 22 3 31 (w.alloc (.cells z8 131)).heap.size 0 8 8 ad 8 c z8 131 ([a0, a1, a2, a3, a4, a5, a6, a7].map (Value.int .u64))
      Try.underlying22 (by kernel_rfl) (heap_alloc_new _ _) rfl (ints_cells (hA.ext (((Ext.refl w).alloc _).alloc _))) (Nat.le_refl 8) (by intro v hv; obtain ⟨y, _, rfl⟩ := List.mem_map.1 hv; rfl)
    rw [setRow_new, World.size_alloc] at h
    exact h
  unfold z8 at hcp
  go_enter Try.func101, Try.ntmps101
  go_wp2_with fail
  exact bodyPost_ret (v := .agg #[.int .u64 a0, .int .u64 a1, .int .u64 a2, .int .u64 a3, .int .u64 a4, .int .u64 a5, .int .u64 a6, .int .u64 a7]) (by simp [results, Try.results101, go_sem]) rfl ⟨rfl, by repeat (first | exact Ext.refl w | refine Ext.alloc ?_ _ | refine Ext.setCell ?_ (by simp) _)⟩
end Go.Proofs.Ytcelhllhdkminaa
