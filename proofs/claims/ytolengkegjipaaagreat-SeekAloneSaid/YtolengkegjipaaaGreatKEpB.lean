/- Package epoch: the iterator over the threads that an Advance has not asked, and what a range over it may keep. Conditions: those that each theorem names. -/
import Derived.RangeFuncNested
import Derived.RangeFuncBox
import Derived.RangeFuncBound
import Derived.RangeFuncCalls
import Derived.RangeFuncLeaves
import Derived.Shelf.Abstract
import Derived.Shelf.RegionOpen
import Derived.WalkKit
import Derived.OwnWalkIn
import Derived.TacticsInMore
import Derived.LoopNIn
import Derived.LoopIn
import Derived.Test.YtolengkegjipaaaGreatKEpA
namespace Go.Proofs.YtolengkegjipaaaGreat
open Go.ChangeShapes Go.WideShapes Go.ChangeAt Go.RowKit Go.Shelf
set_option linter.unusedVariables false
attribute [local go_sem] Oper.semAt_some
/-- The blocks of S are as they were (for epoch's iterator). -/
def KeepE (S : Nat → Prop) (W W' : World) : Prop := ∀ g, S g → W'.heap[g]? = W.heap[g]?
theorem KeepE.refl (S : Nat → Prop) (W : World) : KeepE S W W := fun _ _ => rfl
theorem KeepE.trans {S : Nat → Prop} {A B C : World} (h : KeepE S A B) (k : KeepE S B C) : KeepE S A C := fun g hg => (k g hg).trans (h g hg)
theorem KeepE.ext {S : Nat → Prop} {W W' : World} (hS : ∀ g, S g → g < W.heap.size) (h : Ext W W') : KeepE S W W' := fun g hg => h.block g (hS g hg)
theorem Ext.grown {W W' : World} (h : Ext W W') : W.grownBy W' none := ⟨h.os, h.tape, h.output, h.size, fun k hk _ => h.block k hk⟩
end Go.Proofs.YtolengkegjipaaaGreat


/- A memory abides the turns of blocks that are no cells: what a range over a function keeps for itself. Conditions: those that each theorem names. -/
namespace Go.Proofs.YtolengkegjipaaaGreat
open Go.ChangeShapes Go.WideShapes Go.ChangeAt Go.RowKit Go.Shelf
set_option linter.unusedVariables false
attribute [local go_sem] Oper.semAt_some
theorem RowN.cells {w : World} {B : Nat} {e : TypeId} {size : Nat} {k : IntKind} {v : Value} {n : Nat} {zs : List Int} (h : RowN w B e size k v n zs) {g : Nat} (hg : v.ownBlock = some g) : ∃ c t f, w.heap[g]? = some (.cells c t f) := by
  rcases h.2 with ⟨rfl, _⟩ | ⟨g', cap, cur, rfl, _, hh, _⟩
  · simp [Value.ownBlock] at hg
  · have : g' = g := by simpa [Value.ownBlock] using hg
    subst this
    exact ⟨_, _, _, hh⟩
theorem IsDev.foot_cells {B : Nat} {w : World} {D : DevB} {s : DSt} (h : IsDev B w D s) {g : Nat} (hf : D.foot g) : ∃ c t f, w.heap[g]? = some (.cells c t f) := by
  rcases hf with rfl | rfl | rfl | rfl | rfl | ⟨t, ht, hg⟩
  · exact ⟨_, _, _, h.dev⟩
  · exact h.kept.cells rfl
  · exact h.seen.cells rfl
  · exact ⟨_, _, _, h.flb⟩
  · exact h.writes.cells rfl
  · exact (RowN.of_row (h.fl t (by rw [← h.lits]; exact ht))).cells hg
section
variable {Q : Nat → Prop} {wb w0 w w' : World} {gm : Nat} {dv pv : Value} {s : MSt}
/-- A block that is no cells may be held, too. -/
theorem IsMem.also {r : Nat} (h : IsMem Q wb w0 w gm dv pv s) (hr : r < w.heap.size) (hn : ∀ c t f, w.heap[r]? ≠ some (.cells c t f)) : IsMem (fun g => Q g ∨ g = r) w w0 w gm dv pv s := by
  have e1 : r ≠ gm := fun e => by
    subst e
    exact hn _ _ _ h.blk
  have e2 : pv.ownBlock ≠ some r := fun e => by
    obtain ⟨c, t, f, hh⟩ := (RowN.of_row h.pas).cells e
    exact hn _ _ _ hh
  refine ⟨h.g0, h.blk, h.pas, ?_, h.pm, fun g hg => ?_, h.lp, h.ll⟩
  · obtain ⟨D, e, hd, x, hq⟩ := h.dev
    refine ⟨D, e, hd, x, fun g hg => ?_⟩
    rcases hg with hg | hg | hg | rfl
    · exact hq g (Or.inl hg)
    · exact hq g (Or.inr (Or.inl hg))
    · exact hq g (Or.inr (Or.inr hg))
    · exact ⟨hr, fun hf => by
        obtain ⟨c, t, f, hh⟩ := hd.foot_cells hf
        exact hn _ _ _ hh, rfl⟩
  · rcases hg with hg | rfl
    · exact ⟨(h.q g hg).1, (h.q g hg).2.1, rfl⟩
    · exact ⟨e1, e2, rfl⟩
/-- What a range over a function keeps for itself turns: the memory stands, and so does what is held. -/
theorem IsMem.grown {row : Option Nat} (h : IsMem Q w w0 w gm dv pv s) (hg : w.grownBy w' row) (hr : ∀ r, row = some r → w0.heap.size ≤ r ∧ ∃ o : Obj, w.heap[r]? = some o ∧ o.isCells = false) : IsMem Q w' w0 w' gm dv pv s := by
  cases row with
  | none => exact (h.ext (show Ext w w' from ⟨hg.os, hg.tape, hg.output, hg.size, fun k hk => hg.block k hk (by simp)⟩)).here
  | some r =>
    obtain ⟨h0, o, ho, hc⟩ := hr r rfl
    have m1 := h.also (r := r) (Array.getElem?_eq_some_iff.1 ho).1 (fun c t f e => by rw [e] at ho; cases ho; cases hc)
    have f : Fr (fun b => b = r) w w' := ⟨hg.os, hg.tape, hg.output, hg.size, fun g hg' hn => hg.block g hg' (fun e => hn (by injection e))⟩
    exact (m1.turn f (fun b e => Or.inr e) (fun b e => by rw [e]; exact h0)).less (fun g hg => Or.inl hg) (fun _ _ => rfl)
end
/-- A state of an Advance. -/
structure AMs where
  dn : Bool
  ld : Bool
  ep : Int
  asked : Nat
  mv : Bool
deriving DecidableEq
def AMs.cells (x : AMs) (gl : Nat) (t : Int) : List Value := acells gl t x.dn x.ld x.ep x.asked x.mv
structure AMs.Wf (x : AMs) (T : Nat) : Prop where
  ep : W64 x.ep
  asked : x.asked ≤ T
section
variable {Q : Nat → Prop} {w0 w : World} {gm gp gl : Nat} {dv pv : Value} {s : MSt} {F : Nat → Int} {t ep asked : Int} {dn ld mv : Bool}
end
end Go.Proofs.YtolengkegjipaaaGreat


/- Package epoch: the machines' steps as one, and the page's example of layer 10. Conditions: those that each theorem names. -/
namespace Go.Proofs.YtolengkegjipaaaGreat
open Go.ChangeShapes Go.WideShapes Go.ChangeAt Go.RowKit
set_option linter.unusedVariables false
end Go.Proofs.YtolengkegjipaaaGreat

