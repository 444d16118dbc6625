/- What is kept behind lines written back. Conditions: those that each theorem names. -/
import Derived.Test.YtcelhllhdkminaaActsView
namespace Go.Proofs.Ytcelhllhdkminaa
open Go.ChangeShapes Go.WideShapes Go.ChangeAt Go.RowKit
set_option linter.unusedVariables false
/-- A line of all words. -/
def lineOf (zs : List Int) (q : Nat) : List Int := (zs.drop (q * 8)).take 8
theorem lineOf_get (zs : List Int) (q j : Nat) (hj : j < 8) : (lineOf zs q)[j]? = zs[q * 8 + j]? := by
  unfold lineOf
  rw [List.getElem?_take, if_pos hj, List.getElem?_drop]
theorem lineOf_ext {a b : List Int} {p q : Nat} (h : ∀ j, j < 8 → a[p * 8 + j]? = b[q * 8 + j]?) : lineOf a p = lineOf b q := by
  apply List.ext_getElem?
  intro j
  by_cases hj : j < 8
  · rw [lineOf_get _ _ _ hj, lineOf_get _ _ _ hj, h j hj]
  · have h1 : (lineOf a p).length ≤ 8 := by unfold lineOf; rw [List.length_take]; omega
    have h2 : (lineOf b q).length ≤ 8 := by unfold lineOf; rw [List.length_take]; omega
    rw [List.getElem?_eq_none (by omega), List.getElem?_eq_none (by omega)]
structure Big (s : DSt) : Prop where
  k : s.kept.length = s.n * 8
  s : s.seen.length = s.n * 8
theorem put8_get (zs ls : List Int) (o : Nat) (hl : ls.length = 8) (ho : o + 8 ≤ zs.length) (j : Nat) : (put8 zs o ls)[j]? = if o ≤ j ∧ j < o + 8 then ls[j - o]? else zs[j]? := by
  unfold put8
  have ht : (zs.take o).length = o := by rw [List.length_take]; omega
  rw [List.append_assoc, List.getElem?_append, ht, List.getElem?_append, hl]
  by_cases h1 : j < o
  · rw [if_pos h1, if_neg (by omega), List.getElem?_take, if_pos h1]
  · rw [if_neg h1]
    by_cases h2 : j - o < 8
    · rw [if_pos h2, if_pos (by omega)]
    · rw [if_neg h2, if_neg (by omega), List.getElem?_drop]
      congr 1
      omega
theorem put8_len (zs ls : List Int) (o : Nat) (hl : ls.length = 8) (ho : o + 8 ≤ zs.length) : (put8 zs o ls).length = zs.length := by unfold put8; simp [hl]; omega
theorem lineOf_len {zs : List Int} {n : Nat} (h : zs.length = n * 8) (p : Nat) (hp : p < n) : (lineOf zs p).length = 8 := by unfold lineOf; rw [List.length_take, List.length_drop, h]; omega
theorem Big.back {s : DSt} (h : Big s) (p : Nat) (hp : p < s.n) : Big (s.back p) := ⟨(put8_len s.kept (lineOf s.seen p) (p * 8) (lineOf_len h.s p hp) (by rw [h.k]; omega)).trans h.k, h.s⟩
theorem back_line {s : DSt} (h : Big s) (p q : Nat) (hp : p < s.n) (hq : q < s.n) : lineOf (s.back p).kept q = if q = p then lineOf s.seen p else lineOf s.kept q := by
  have hl : (lineOf s.seen p).length = 8 := by unfold lineOf; rw [List.length_take, List.length_drop, h.s]; omega
  have hg := put8_get s.kept (lineOf s.seen p) (p * 8) hl (by rw [h.k]; omega)
  have e : (s.back p).kept = put8 s.kept (p * 8) (lineOf s.seen p) := rfl
  rw [e]
  by_cases c : q = p
  · subst c
    rw [if_pos rfl]
    apply List.ext_getElem?
    intro j
    by_cases hj : j < 8
    · rw [lineOf_get _ _ _ hj, hg, if_pos (by omega), Nat.add_sub_cancel_left]
    · have h1 : (lineOf (put8 s.kept (q * 8) (lineOf s.seen q)) q).length ≤ 8 := by unfold lineOf; rw [List.length_take]; omega
      rw [List.getElem?_eq_none (by omega), List.getElem?_eq_none (by omega)]
  · rw [if_neg c]
    apply lineOf_ext
    intro j hj
    rw [hg, if_neg (by omega)]
theorem backs_line (l : List Int) : ∀ s : DSt, Big s → (∀ x ∈ l, 0 ≤ x ∧ x < (s.n : Int)) → ∀ q, q < s.n → (lineOf (s.backs l).kept q = lineOf s.kept q ∨ lineOf (s.backs l).kept q = lineOf s.seen q) ∧ ((q : Int) ∈ l → lineOf (s.backs l).kept q = lineOf s.seen q) := by
  induction l with
  | nil => intro s _ _ q _; exact ⟨Or.inl rfl, fun h => by cases h⟩
  | cons p l ih =>
    intro s hb hr q hq
    have hp := hr p List.mem_cons_self
    have hpn : p.toNat < s.n := by omega
    obtain ⟨h1, h2⟩ := ih (s.back p.toNat) (hb.back _ hpn) (fun x hx => hr x (List.mem_cons_of_mem _ hx)) q hq
    have hl := back_line hb p.toNat q hpn hq
    have hs : lineOf (s.back p.toNat).seen q = lineOf s.seen q := rfl
    rw [hs] at h1 h2
    have e : s.backs (p :: l) = (s.back p.toNat).backs l := rfl
    rw [e]
    by_cases c : q = p.toNat
    · rw [if_pos c, ← c] at hl
      have : lineOf ((s.back p.toNat).backs l).kept q = lineOf s.seen q := by
        rcases h1 with h1 | h1
        · rw [h1, ← c, hl]
        · exact h1
      exact ⟨Or.inr this, fun _ => this⟩
    · rw [if_neg c] at hl
      rw [hl] at h1
      refine ⟨h1, fun hm => ?_⟩
      rcases List.mem_cons.1 hm with hm | hm
      · exact absurd (by omega) c
      · exact h2 hm
theorem backs_big (l : List Int) : ∀ s : DSt, Big s → (∀ x ∈ l, 0 ≤ x ∧ x < (s.n : Int)) → Big (s.backs l) := by
  induction l with
  | nil => intro s h _; exact h
  | cons p l ih =>
    intro s h hr
    have hp := hr p List.mem_cons_self
    exact ih _ (h.back _ (by omega)) (fun x hx => hr x (List.mem_cons_of_mem _ hx))
theorem backs_seen (l : List Int) : ∀ s : DSt, (s.backs l).seen = s.seen := by
  induction l with
  | nil => intro s; rfl
  | cons p l ih => intro s; exact ih (s.back p.toNat)
end Go.Proofs.Ytcelhllhdkminaa
