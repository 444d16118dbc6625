/- line of package lines: the line of 64 bytes, gathered by a loop over an iterator. Conditions: those that each theorem names. -/
import Derived.Test.YtcelhllhdkminaaLineIter
import Derived.Maps.AppendAt
namespace Go.Proofs.Ytcelhllhdkminaa
open Go.ChangeShapes Go.WideShapes Go.ChangeAt Go.RowKit Go.Shelf
set_option linter.unusedVariables false
attribute [local go_sem] Oper.semAt_some
/-- A fence that lets all by, under a name. -/
theorem wide_fence : ∃ (F : Fence) (n : Nat), Hid (F = Fence.wide) ∧ (∀ f, F.fn f) ∧ F.round = none ∧ 3 ≤ n := ⟨Fence.wide, 3, Lib.hid rfl, fun _ => trivial, rfl, Nat.le_refl _⟩
theorem mixed : Try.prog.follows .mixedOrders = true := by kernel_rfl
theorem Ext.others {W X : World} (h : Ext W X) : KeepsOthers W X := ⟨h.size, fun k o hk _ => (h.block k (Array.getElem?_eq_some_iff.1 hk).1).trans hk⟩
/-- 'The blocks of S are as they were at first' speaks of cells alone. -/
theorem keepAt_own {β : Type} {S : Nat → Prop} {W0 : World} (hS : ∀ g, S g → ∃ c t f, W0.heap[g]? = some (.cells c t f)) : Own (fun (_ : β) W => KeepAt S W0 W) := by
  intro s W W' row h hg hr g hSg
  obtain ⟨c, t, f, hc⟩ := hS g hSg
  have hW : W.heap[g]? = some (.cells c t f) := (h g hSg).trans hc
  rw [hg.block g (Array.getElem?_eq_some_iff.1 hW).1 (fun e => by obtain ⟨o, ho, hn⟩ := hr g e.symm; rw [hW] at ho; cases ho; cases hn)]
  exact h g hSg
/-- 'out = append(out, ..)', of a variable in a box, whatever was laid between. -/
theorem collect_step {W X w1 W0 : World} {n₀ B : Nat} {t e : TypeId} {size : Nat} {v v' : Value} {k m : Nat} {xs ys : List Value} {S : Nat → Prop}
    (hv : Boxed W B t v) (hte : t ≠ e) (hrow : W.ownsRow n₀ e size v k xs) (hn₀ : n₀ ≤ W.heap.size) (hB : n₀ ≤ B) (hx : Ext W X)
    (hk : KeepAt S W0 W) (hS : ∀ g, S g → g ≠ B ∧ ∃ c t' f, W0.heap[g]? = some (.cells c t' f) ∧ t' ≠ e)
    (hown' : w1.ownsRow n₀ e size v' m ys) (hgrow : X.grownBy w1 v.ownBlock) :
    Boxed w1 B t v ∧ Boxed (w1.setCell ⟨B, 0, none⟩ v') B t v' ∧ (w1.setCell ⟨B, 0, none⟩ v').ownsRow n₀ e size v' m ys ∧ KeepsOthers W (w1.setCell ⟨B, 0, none⟩ v') ∧ Below n₀ W (w1.setCell ⟨B, 0, none⟩ v') ∧ KeepAt S W (w1.setCell ⟨B, 0, none⟩ v') := by
  have hvX : Boxed X B t v := (hx.block B hv.lt).trans hv
  have hv1 : Boxed w1 B t v := hvX.kept hgrow (hv.not_row hte hrow)
  have hrb : ∀ j, v.ownBlock = some j → ∃ cur, W.heap[j]? = some (.cells cur e (0, 0)) ∧ n₀ ≤ j := fun j ej => by
    rcases hrow.2 with ⟨rfl, _⟩ | ⟨g, cap, cur, rfl, hb, hgb, _⟩
    · simp [Value.ownBlock] at ej
    · obtain rfl : g = j := by simpa [Value.ownBlock] using ej
      exact ⟨cur, hgb, hb⟩
  refine ⟨hv1, hv1.set v', hown'.kept (grownBy_setCell' w1 B v') (.inr (hv1.not_row hte hown').symm), ?_, ?_, ?_⟩
  · refine (hx.others.trans (KeepsOthers.of_grownBy hgrow fun j o ej hj => ?_)).trans (KeepsOthers.setCell _ _ _)
    obtain ⟨cur, hc, _⟩ := hrb j ej
    rw [hx.block j (Array.getElem?_eq_some_iff.1 hc).1, hc] at hj
    cases hj; rfl
  · exact ((Below.mono hx.below hn₀).grown hgrow (Nat.le_trans hn₀ hx.size) fun j ej => (hrb j ej).choose_spec.2).setCell (p := ⟨B, 0, none⟩) hB v'
  · intro g hSg
    obtain ⟨hne, c, t', f, hc, ht⟩ := hS g hSg
    have hW : W.heap[g]? = some (.cells c t' f) := (hk g hSg).trans hc
    have hlt := (Array.getElem?_eq_some_iff.1 hW).1
    rw [Below.heap_setCell w1 ⟨B, 0, none⟩ v' g hne, hgrow.block g (Nat.lt_of_lt_of_le hlt hx.size) (fun e' => by
      obtain ⟨cur, hcur, _⟩ := hrb g e'.symm
      rw [hW] at hcur
      injection hcur with hcur
      injection hcur with _ h2
      exact ht h2), hx.block g hlt]
/-- The part of a text, as it reads. -/
theorem Ints.part {w : World} {k : IntKind} {ad : Addr} {zs : List Int} (h : Ints w k (some ad) zs) (s n : Nat) (hs : s + n ≤ zs.length) (hn : 0 < n) : Ints w k (some (ad.add s)) ((zs.drop s).take n) := fun _ => by
  obtain ⟨ad', e, hb, hc⟩ := h (by omega)
  injection e with e
  subst e
  refine ⟨_, rfl, by rw [add_block]; exact hb, fun j hj => ?_⟩
  have hj' : j < n := by rw [List.length_take] at hj; omega
  rw [add_add, hc (s + j) (by omega)]
  simp only [List.getD_eq_getElem?_getD]
  rw [List.getElem?_take, if_pos hj', List.getElem?_drop]
theorem setCell_os (W : World) (p : Addr) (u : Value) : (W.setCell p u).os = W.os := rfl
theorem setCell_tape (W : World) (p : Addr) (u : Value) : (W.setCell p u).tape = W.tape := rfl
theorem setCell_output (W : World) (p : Addr) (u : Value) : (W.setCell p u).output = W.output := rfl
theorem setCell_size (W : World) (p : Addr) (u : Value) : (W.setCell p u).heap.size = W.heap.size := by simp [World.setCell]
/-- Of the blocks just g has turned. -/
structure Turned (g : Nat) (w w' : World) : Prop where
  os : w'.os = w.os
  tape : w'.tape = w.tape
  output : w'.output = w.output
  size : w'.heap.size = w.heap.size
  other : ∀ k, k ≠ g → w'.heap[k]? = w.heap[k]?
theorem Turned.refl (g : Nat) (w : World) : Turned g w w := ⟨rfl, rfl, rfl, rfl, fun _ _ => rfl⟩
theorem Turned.set {g : Nat} {w w' : World} (h : Turned g w w') (j : Nat) (u : Value) : Turned g w (w'.setCell ⟨g, j, none⟩ u) :=
  ⟨h.os, h.tape, h.output, (setCell_size w' _ u).trans h.size, fun k hk => (Below.heap_setCell w' ⟨g, j, none⟩ u k hk).trans (h.other k hk)⟩
theorem arr8 (cs : Array Value) (h : cs.size = 8) (b0 b1 b2 b3 b4 b5 b6 b7 : Value) : (((((((cs.setIfInBounds 0 b0).setIfInBounds 1 b1).setIfInBounds 2 b2).setIfInBounds 3 b3).setIfInBounds 4 b4).setIfInBounds 5 b5).setIfInBounds 6 b6).setIfInBounds 7 b7 = #[b0, b1, b2, b3, b4, b5, b6, b7] := by
  obtain ⟨l⟩ := cs
  match l, h with
  | [_, _, _, _, _, _, _, _], _ => simp only [List.setIfInBounds_toArray, List.set_cons_zero, List.set_cons_succ]
/-- A line stored, cell by cell. -/
theorem set8 (w : World) (g : Nat) (t : TypeId) (cs : Array Value) (hcs : cs.size = 8) (hg : w.heap[g]? = some (.cells cs t (0, 0))) (a0 a1 a2 a3 a4 a5 a6 a7 : Int) :
    ((((((((w.setCell ⟨g, 0, none⟩ (.int .u64 a0)).setCell ⟨g, 1, none⟩ (.int .u64 a1)).setCell ⟨g, 2, none⟩ (.int .u64 a2)).setCell ⟨g, 3, none⟩ (.int .u64 a3)).setCell ⟨g, 4, none⟩ (.int .u64 a4)).setCell ⟨g, 5, none⟩ (.int .u64 a5)).setCell ⟨g, 6, none⟩ (.int .u64 a6)).setCell ⟨g, 7, none⟩ (.int .u64 a7)).heap[g]? = some (.cells #[.int .u64 a0, .int .u64 a1, .int .u64 a2, .int .u64 a3, .int .u64 a4, .int .u64 a5, .int .u64 a6, .int .u64 a7] t (0, 0)) ∧ Turned g w ((((((((w.setCell ⟨g, 0, none⟩ (.int .u64 a0)).setCell ⟨g, 1, none⟩ (.int .u64 a1)).setCell ⟨g, 2, none⟩ (.int .u64 a2)).setCell ⟨g, 3, none⟩ (.int .u64 a3)).setCell ⟨g, 4, none⟩ (.int .u64 a4)).setCell ⟨g, 5, none⟩ (.int .u64 a5)).setCell ⟨g, 6, none⟩ (.int .u64 a6)).setCell ⟨g, 7, none⟩ (.int .u64 a7)) := by
  have st : ∀ (W : World) (cs : Array Value) (j : Nat) (u : Value), W.heap[g]? = some (.cells cs t (0, 0)) → (W.setCell ⟨g, j, none⟩ u).heap[g]? = some (.cells (cs.setIfInBounds j u) t (0, 0)) := fun W cs j u h => by
    simp [World.setCell, Array.getElem?_modify, h]
  have t0 := Turned.refl g w
  have h0 := hg
  have h1 := st w _ 0 (.int .u64 a0) h0
  have t1 := t0.set 0 (.int .u64 a0)
  generalize w.setCell ⟨g, 0, none⟩ (.int .u64 a0) = w1 at *
  have h2 := st w1 _ 1 (.int .u64 a1) h1
  have t2 := t1.set 1 (.int .u64 a1)
  generalize w1.setCell ⟨g, 1, none⟩ (.int .u64 a1) = w2 at *
  have h3 := st w2 _ 2 (.int .u64 a2) h2
  have t3 := t2.set 2 (.int .u64 a2)
  generalize w2.setCell ⟨g, 2, none⟩ (.int .u64 a2) = w3 at *
  have h4 := st w3 _ 3 (.int .u64 a3) h3
  have t4 := t3.set 3 (.int .u64 a3)
  generalize w3.setCell ⟨g, 3, none⟩ (.int .u64 a3) = w4 at *
  have h5 := st w4 _ 4 (.int .u64 a4) h4
  have t5 := t4.set 4 (.int .u64 a4)
  generalize w4.setCell ⟨g, 4, none⟩ (.int .u64 a4) = w5 at *
  have h6 := st w5 _ 5 (.int .u64 a5) h5
  have t6 := t5.set 5 (.int .u64 a5)
  generalize w5.setCell ⟨g, 5, none⟩ (.int .u64 a5) = w6 at *
  have h7 := st w6 _ 6 (.int .u64 a6) h6
  have t7 := t6.set 6 (.int .u64 a6)
  generalize w6.setCell ⟨g, 6, none⟩ (.int .u64 a6) = w7 at *
  have h8 := st w7 _ 7 (.int .u64 a7) h7
  have t8 := t7.set 7 (.int .u64 a7)
  generalize w7.setCell ⟨g, 7, none⟩ (.int .u64 a7) = w8 at *
  rw [arr8 cs hcs] at h8
  exact ⟨h8, t8⟩
theorem map_finRange (b : List Int) (m : Nat) (s : Nat) : (List.finRange m).map (fun x => LM.wordOf ((b.drop (s * x.val)).take s)) = (List.range m).map (fun i => LM.wordOf ((b.drop (s * i)).take s)) := by
  apply List.ext_getElem
  · simp
  · intro i h1 h2
    simp
end Go.Proofs.Ytcelhllhdkminaa
