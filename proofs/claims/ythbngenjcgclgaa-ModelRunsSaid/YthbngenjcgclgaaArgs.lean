/- A law's arguments: that they read as before behind a call which laid at most new blocks, and what a slice of integers reads as. Conditions: those that each theorem names. -/
import Derived.Test.YthbngenjcgclgaaInts
import Derived.WideKeyArgs
namespace Go.Proofs.Ythbngenjcgclgaa
open Go.ChangeShapes Go.WideShapes Go.ChangeAt Go.RowKit
set_option linter.unusedVariables false

section
variable {H : Type} {enc : TypeId × Value → H} {P : Program}
theorem trodAll_stays (hl : laidOutB P = true) {W W' : World} (ext : Ext W W') {sp : Nat → Bool} : ∀ (ts : List TypeId) (vs : List Value) (ds : List (DataW H)) (ps : List MemPlace),
    (∀ t ∈ ts, P.readableRec t = true ∧ t < P.types.size) → DataW.TrodAll enc P W 0 (fun _ => true) true ts vs ds ps → (∀ x ∈ ps, x.block < W.heap.size) → (∀ x ∈ ps, sp x.block = true) → DataW.TrodAll enc P W' 0 sp true ts vs ds ps := by
  intro ts
  induction ts with
  | nil =>
    intro vs ds ps _ h _ _
    obtain ⟨rfl, rfl, rfl⟩ := trodAll_nil h
    exact trodAll_mk0
  | cons t ts ih =>
    intro vs ds ps hts h hlt hsp
    obtain ⟨v, vs', d, ds', p, q, rfl, rfl, rfl, h1, h2⟩ := trodAll_cons h
    obtain ⟨hr, hrow⟩ := hts t (by simp)
    refine trodAll_cons_mk (WideElems.Trod_stays hl hr hrow h1 (fun x hx => Below.same ext.below (hlt x (by simp [hx]))) (fun x hx => hsp x (by simp [hx]))) ?_
    exact ih vs' ds' q (fun t' ht' => hts t' (by simp [ht'])) h2 (fun x hx => hlt x (by simp [hx])) (fun x hx => hsp x (by simp [hx]))

/-- A slice of integers that came in. -/
theorem view_ints {W : World} {t e : TypeId} {k : IntKind} {v : Value} {d : DataW H} {p : List MemPlace} (ht : P.underlying t = some (.slice e)) (he : P.underlying e = some (.int k)) (hc : P.cellsOf e = 1)
    {base : Nat} (hv : Value.okWide P W .any base t v) (h : DataW.Trod enc P W 0 (fun _ => true) true t v d p) :
    ∃ (A : Option Addr) (c : Nat) (zs : List Int), v = .slice A zs.length c ∧ zs.length ≤ c ∧ c ≤ maxLen ∧ Ints W k A zs ∧ ∀ n ∈ zs, (Lit.int k n).wf = true := by
  obtain ⟨a, l, c, rfl⟩ := okWide_slice ht hv
  obtain ⟨f, hf⟩ := h
  rcases open_ints ht he hc hf with ⟨hcs, _⟩ | ⟨ad, len, cap, zs, hcs, _, hl, hm, hz, _, hcell, hw⟩
  · have e1 : Value.slice a l c = .slice none 0 0 := by
      have : [Value.slice a l c] = [.slice none 0 0] := hcs
      injection this
    rw [e1]
    exact ⟨none, 0, [], rfl, Nat.le_refl _, by unfold maxLen; omega, Ints.none _ _ _, fun n hn => absurd hn (by simp)⟩
  · have e1 : Value.slice a l c = .slice (some ad) len cap := by
      have : [Value.slice a l c] = [.slice (some ad) len cap] := hcs
      injection this
    have hz' : zs.length = cap := by simpa using hz
    have hlen : (zs.take len).length = len := by rw [List.length_take]; omega
    rw [e1]
    refine ⟨some ad, cap, zs.take len, by rw [hlen], by omega, hm, fun h0 => ⟨ad, rfl, ?_, fun j hj => ?_⟩, fun n hn => hw n (List.mem_of_mem_take hn)⟩
    · rw [hlen] at h0
      have := World.block_lt_of_cell? W (ad.add 0) (hcell 0 (by omega))
      rwa [add_block] at this
    · rw [hlen] at hj
      rw [hcell j (by omega)]
      simp [List.getD_eq_getElem?_getD, hj]
theorem lim_u8 {zs : List Int} (h : ∀ n ∈ zs, (Lit.int .u8 n).wf = true) : Lim zs 256 := fun j hj => by
  have hm : zs.getD j 0 ∈ zs := by simp [List.getD_eq_getElem?_getD, hj]
  exact wf_u8 (h _ hm)
theorem lim_u64 {zs : List Int} (h : ∀ n ∈ zs, (Lit.int .u64 n).wf = true) : Lim zs 18446744073709551616 := fun j hj => by
  have hm : zs.getD j 0 ∈ zs := by simp [List.getD_eq_getElem?_getD, hj]
  exact wf_u64 (h _ hm)
end
theorem readable_of {P : Program} {ts : List TypeId} (h : (ts.all fun t => P.readableRec t && decide (t < P.types.size)) = true) : ∀ t ∈ ts, P.readableRec t = true ∧ t < P.types.size := fun t ht => by
  have := List.all_eq_true.1 h t ht
  simpa using this
theorem laid : laidOutB Try.prog = true := by kernel_rfl
end Go.Proofs.Ythbngenjcgclgaa
