/- Slices of acts that came in, read. Conditions: those that each theorem names. -/
import Derived.Test.YtcelhllhdkminaaActsMath
namespace Go.Proofs.Ytcelhllhdkminaa
open Go.ChangeShapes Go.WideShapes Go.ChangeAt Go.RowKit Go.Deep
set_option linter.unusedVariables false
/-- An act, by its numbers. -/
structure Act5 where
  k : Int
  t : Int
  l : Int
  a : Int
  x : Int
def Act5.at (z : Act5) (w : World) (p : Addr) : Prop :=
  w.cell? p = some (.int .i64 z.k) ∧ w.cell? ⟨p.block, p.off + 1, none⟩ = some (.int .i64 z.t) ∧ w.cell? ⟨p.block, p.off + 2, none⟩ = some (.int .i64 z.l) ∧ w.cell? ⟨p.block, p.off + 3, none⟩ = some (.int .i64 z.a) ∧ w.cell? ⟨p.block, p.off + 4, none⟩ = some (.int .u64 z.x)
def noAct : Act5 := ⟨0, 0, 0, 0, 0⟩
/-- A slice of acts, read. -/
def Acts (w : World) (A : Option Addr) (ys : List Act5) : Prop := 0 < ys.length → ∃ ad, A = some ad ∧ ad.block < w.heap.size ∧ ∀ i, i < ys.length → (ys.getD i noAct).at w (ad.add (i * 5)) ∧ (0 ≤ (ys.getD i noAct).x ∧ (ys.getD i noAct).x < 18446744073709551616)
theorem Acts.ext {w w' : World} {A : Option Addr} {ys : List Act5} (h : Acts w A ys) (x : Ext w w') : Acts w' A ys := fun h0 => by
  obtain ⟨ad, rfl, hb, hc⟩ := h h0
  refine ⟨ad, rfl, Nat.lt_of_lt_of_le hb x.size, fun i hi => ?_⟩
  obtain ⟨⟨c0, c1, c2, c3, c4⟩, hx⟩ := hc i hi
  have e : w'.heap[ad.block]? = w.heap[ad.block]? := x.block ad.block hb
  have e' : w'.heap[(ad.add (i * 5)).block]? = w.heap[(ad.add (i * 5)).block]? := by rw [add_block]; exact e
  have kk : ∀ q : Addr, q.block = (ad.add (i * 5)).block → w'.cell? q = w.cell? q := fun q hq => World.cell?_of_block (by rw [hq]; exact e')
  exact ⟨⟨(by refine Eq.trans (kk _ ?_) c0; rfl), (by refine Eq.trans (kk _ ?_) c1; rfl), (by refine Eq.trans (kk _ ?_) c2; rfl), (by refine Eq.trans (kk _ ?_) c3; rfl), (by refine Eq.trans (kk _ ?_) c4; rfl)⟩, hx⟩
theorem choose_acts {Q : Nat → Act5 → Prop} : ∀ N, (∀ i, i < N → ∃ z, Q i z) → ∃ zs : List Act5, zs.length = N ∧ ∀ i, i < N → Q i (zs.getD i noAct) := by
  intro N
  induction N with
  | zero => intro _; exact ⟨[], rfl, fun i hi => absurd hi (by omega)⟩
  | succ N ih =>
    intro h
    obtain ⟨zs, hl, hz⟩ := ih fun i hi => h i (by omega)
    obtain ⟨z, hzN⟩ := h N (by omega)
    refine ⟨zs ++ [z], by simp [hl], fun i hi => ?_⟩
    by_cases hi' : i < N
    · rw [List.getD_eq_getElem?_getD, List.getElem?_append_left (by omega), ← List.getD_eq_getElem?_getD]
      exact hz i hi'
    · obtain rfl : i = N := by omega
      rw [List.getD_eq_getElem?_getD, List.getElem?_append_right (by omega), hl, Nat.sub_self]
      exact hzN
section
variable {H : Type} {enc : TypeId × Value → H} {P : Program}
theorem view_acts {W : World} {t ty : TypeId} {f0 f1 f2 f3 f4 : Field} {v : Value} {d : DataW H} {p : List MemPlace} (hs : P.underlying t = some (.slice ty)) (ht : P.underlying ty = some (.struct #[f0, f1, f2, f3, f4])) (hone : oneCellFields P #[f0, f1, f2, f3, f4] = true) (hC : P.cellsOf ty = 5)
    (u0 : P.underlying f0.type = some (.int .i64)) (u1 : P.underlying f1.type = some (.int .i64)) (u2 : P.underlying f2.type = some (.int .i64)) (u3 : P.underlying f3.type = some (.int .i64)) (u4 : P.underlying f4.type = some (.int .u64))
    {base : Nat} (hv : Value.okWide P W .any base t v) (h : DataW.Trod enc P W 0 (fun _ => true) true t v d p) :
    ∃ (A : Option Addr) (l c : Nat) (ys : List Act5), v = .slice A l c ∧ l ≤ c ∧ c ≤ maxLen ∧ ys.length = l ∧ Acts W A ys := by
  obtain ⟨a, l, c, rfl⟩ := okWide_slice hs hv
  obtain ⟨f, hf⟩ := h
  rcases open_slice hs hf with ⟨hcs, _⟩ | ⟨ad, len, cap, m, k, D, Pl, hcs, _, hl, hm, hmm, _, hi⟩
  · have e1 : Value.slice a l c = .slice none 0 0 := by
      have : [Value.slice a l c] = [.slice none 0 0] := hcs
      injection this
    rw [e1]
    exact ⟨none, 0, 0, [], rfl, Nat.le_refl _, by unfold maxLen; omega, rfl, fun h => absurd h (by decide)⟩
  · have e1 : Value.slice a l c = .slice (some ad) len cap := by
      have : [Value.slice a l c] = [.slice (some ad) len cap] := hcs
      injection this
    rw [e1]
    have hmc : m = cap := by simpa using hmm
    have key : ∀ i, i < len → ∃ z : Act5, z.at W (ad.add (i * 5)) ∧ (0 ≤ z.x ∧ z.x < 18446744073709551616) := fun i hilt => by
      obtain ⟨cs', hcells, htr⟩ := hi i (by omega)
      obtain ⟨_, hlen, hat⟩ := World.cells?_some hcells
      obtain ⟨k', t', l', a', x', hcs', ok⟩ := trod_act ht hone hC u0 u1 u2 u3 u4 htr
      subst hcs'
      rw [hC] at hat
      have hj : ∀ j, j < 5 → W.cell? (ad.add (i * 5 + j)) = [Value.int .i64 k', .int .i64 t', .int .i64 l', .int .i64 a', .int .u64 x'][j]? := fun j hj => by
        have := hat j hj
        rw [Go.Deep.add_add] at this
        exact this
      have hq : ∀ j, 0 < j → j < 5 → W.cell? ⟨(ad.add (i * 5)).block, (ad.add (i * 5)).off + j, none⟩ = [Value.int .i64 k', .int .i64 t', .int .i64 l', .int .i64 a', .int .u64 x'][j]? := fun j h0 h5 => by
        rw [← add_spot _ _ _ h0]; exact hj j h5
      exact ⟨⟨k', t', l', a', x'⟩, ⟨hj 0 (by omega), hq 1 (by omega) (by omega), hq 2 (by omega) (by omega), hq 3 (by omega) (by omega), hq 4 (by omega) (by omega)⟩, wf_u64 ok.2.2.2.2⟩
    obtain ⟨ys, hal, ha⟩ := choose_acts len key
    refine ⟨some ad, len, cap, ys, rfl, hl, hm, hal, fun h0 => ⟨ad, rfl, ?_, fun i hi => ha i (by omega)⟩⟩
    have := World.block_lt_of_cell? W (ad.add (0 * 5)) (ha 0 (by omega)).1.1
    rwa [add_block] at this
end
/-- A device's state behind acts. -/
def DSt.acts (s : DSt) (ys : List Act5) : DSt := ys.foldl (fun s z => s.act z.k z.t z.l z.a z.x) s
theorem acts_take (s : DSt) (ys : List Act5) (i : Nat) (hi : i < ys.length) : s.acts (ys.take (i + 1)) = (s.acts (ys.take i)).act (ys.getD i noAct).k (ys.getD i noAct).t (ys.getD i noAct).l (ys.getD i noAct).a (ys.getD i noAct).x := by
  unfold DSt.acts
  have e : ys.take (i + 1) = ys.take i ++ [ys.getD i noAct] := by
    rw [List.take_add_one, List.getD_eq_getElem?_getD, List.getElem?_eq_getElem hi]; rfl
  rw [e, List.foldl_append]
  rfl
theorem fine_acts (s : DSt) (ys : List Act5) (h : Fine 0 s) : ∀ i, i ≤ ys.length → i ≤ 90 → Fine i (s.acts (ys.take i))
  | 0, _, _ => by simpa [DSt.acts] using h
  | i + 1, hi, h9 => by
    rw [acts_take s ys i (by omega)]
    exact (fine_acts s ys h i (by omega) (by omega)).act (by omega) _ _ _ _ _
theorem act_n (s : DSt) (k t l a x : Int) : (s.act k t l a x).n = s.n ∧ (s.act k t l a x).T = s.T := by
  have hb : ∀ (l : List Int) (s : DSt), (s.backs l).T = s.T := fun l => by
    induction l with
    | nil => intro s; rfl
    | cons p l ih => intro s; exact ih (s.back p.toNat)
  unfold DSt.act
  split
  · unfold DSt.flush; split <;> exact ⟨rfl, rfl⟩
  split
  · unfold DSt.fence; split
    · exact ⟨backs_n _ s, hb _ s⟩
    · exact ⟨rfl, rfl⟩
  split
  · unfold DSt.evict; split <;> exact ⟨rfl, rfl⟩
  split
  · exact ⟨rfl, rfl⟩
  split
  · exact ⟨rfl, rfl⟩
  · unfold DSt.store; split <;> exact ⟨rfl, rfl⟩
theorem acts_n (ys : List Act5) : ∀ s : DSt, (s.acts ys).n = s.n ∧ (s.acts ys).T = s.T := by
  induction ys with
  | nil => intro s; exact ⟨rfl, rfl⟩
  | cons z ys ih =>
    intro s
    have h1 := ih (s.act z.k z.t z.l z.a z.x)
    have h2 := act_n s z.k z.t z.l z.a z.x
    exact ⟨h1.1.trans h2.1, h1.2.trans h2.2⟩
end Go.Proofs.Ytcelhllhdkminaa
