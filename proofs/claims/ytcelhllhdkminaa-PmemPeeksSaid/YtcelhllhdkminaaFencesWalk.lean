/- PdevFences: the walk up to its last statement. Conditions: those that each theorem names. -/
import Derived.Test.YtcelhllhdkminaaFencesMath
import Derived.Test.YtcelhllhdkminaaLineLaw
namespace Go.Proofs.Ytcelhllhdkminaa
open Go.ChangeShapes Go.WideShapes Go.ChangeAt Go.RowKit
set_option linter.unusedVariables false
section
variable {Q : Nat → Prop} {wb w0 w : World} {v : Value} {s : DSt}
theorem AtQ.big (h : AtQ Q wb w0 w v s) : Big s := by
  obtain ⟨D, rfl, h, _, _⟩ := h
  exact ⟨h.kept.len, h.seen.len⟩
theorem AtQ.pos (h : AtQ Q wb w0 w v s) : 0 < s.n ∧ s.n ≤ 262144 := by
  obtain ⟨D, rfl, h, _, _⟩ := h
  exact ⟨h.n0, h.n1⟩
/-- A row of words that is handed back. -/
def Words (w : World) (N : Nat) (zs : List Int) (e : Ending) (w' : World) : Prop := ∃ g c, e = .returned (.slice (some ⟨g, 0, none⟩) N c) ∧ N ≤ c ∧ c ≤ maxLen ∧ Ints w' .u64 (some ⟨g, 0, none⟩) zs ∧ Ext w w' ∧ w.heap.size ≤ g ∧ g < w'.heap.size
theorem words_row {w' : World} {N : Nat} {zs : List Int} {e : Ending} (h0 : 0 < N) (hl : zs.length = N) (h : RowBack w 31 .u64 zs e w') : Words w N zs e w' := by
  obtain ⟨u, rfl, hr, x⟩ := h
  obtain ⟨g, c, hu, h1, h2, h3, h4⟩ := (RowN.of_row hr).at_ (by omega)
  obtain ⟨A, c', hu', _, _, hI, _⟩ := (RowN.of_row hr).form (by decide)
  rw [hl] at hu hu' h1
  rw [hu] at hu'
  injection hu' with e1 e2 e3
  refine ⟨g, c, by rw [hu], h1, h2, ?_, x, h3, h4⟩
  rw [e1]
  exact hI
theorem AtQ.seenA (h : AtQ Q wb w0 w v s) (N : Nat) (hN : s.n * 8 = N) :
    Calls Try.prog 51 #[v] w fun e w' => Words w N s.seen e w' ∧ AtQ Q wb w0 w' v s := by
  have h' := h
  have hp := h.pos
  have hb := h.big.s
  obtain ⟨D, rfl, h, ext, hQ⟩ := h
  refine (seen_ok _ w D s h).mono fun e w' hr => ?_
  have hw := words_row (N := N) (by omega) (by omega) hr
  exact ⟨hw, h'.ext (by obtain ⟨_, _, _, _, _, _, x, _, _⟩ := hw; exact x)⟩
theorem AtQ.keptA (h : AtQ Q wb w0 w v s) (N : Nat) (hN : s.n * 8 = N) :
    Calls Try.prog 52 #[v] w fun e w' => Words w N s.kept e w' ∧ AtQ Q wb w0 w' v s := by
  have h' := h
  have hp := h.pos
  have hb := h.big.k
  obtain ⟨D, rfl, h, ext, hQ⟩ := h
  refine (kept_ok _ w D s h).mono fun e w' hr => ?_
  have hw := words_row (N := N) (by omega) (by omega) hr
  exact ⟨hw, h'.ext (by obtain ⟨_, _, _, _, _, _, x, _, _⟩ := hw; exact x)⟩
end
/-- A row that was handed back is kept beside the device. -/
theorem AtQ.hold {Q : Nat → Prop} {wb w0 w w' : World} {v : Value} {s : DSt} (h : AtQ Q wb w0 w v s) (x : Ext w w') (g : Nat) (hg : w.heap.size ≤ g) (hl : g < w'.heap.size) : AtQ (fun k => Q k ∨ k = g) w' w0 w' v s := by
  obtain ⟨D, rfl, h, e, hQ⟩ := h
  refine ⟨D, rfl, h.ext x, e.trans x, fun k hk => ?_⟩
  rcases hk with hk | rfl
  · obtain ⟨h1, h2, h3⟩ := hQ k hk
    exact ⟨Nat.lt_of_lt_of_le h1 x.size, h2, rfl⟩
  · exact ⟨hl, fun hf => by have := (h.foot_ge hf).2; omega, rfl⟩
theorem ints_held {Q : Nat → Prop} {wb w0 w : World} {v : Value} {s : DSt} {k : IntKind} {g : Nat} {zs : List Int} (hI : Ints wb k (some ⟨g, 0, none⟩) zs) (h : AtQ Q wb w0 w v s) (hq : Q g) : Ints w k (some ⟨g, 0, none⟩) zs := fun h0 => by
  obtain ⟨D, _, _, _, hQ⟩ := h
  obtain ⟨h1, _, h3⟩ := hQ g hq
  obtain ⟨ad, e, _, hc⟩ := hI h0
  injection e with e
  subst e
  exact ⟨_, rfl, h1, fun j hj => by rw [← hc j hj]; exact World.cell?_of_block (by rw [add_block]; exact h3)⟩
end Go.Proofs.Ytcelhllhdkminaa
