/- What is done to a memory, step by step: a machine's step, or another one's act; read as it came in. Conditions: those that each theorem names. -/
import Derived.Test.YtolengkegjipaaaGreatKMemC
import Derived.Test.YtolengkegjipaaaGreatArgs
import Derived.Deep.Fields
import Derived.Deep.Slices
import Derived.Test.YtolengkegjipaaaGreatRPop
import Derived.Test.YtolengkegjipaaaGreatKFM
namespace Go.Proofs.YtolengkegjipaaaGreat
open Go.ChangeShapes Go.WideShapes Go.ChangeAt Go.RowKit Go.Deep
set_option linter.unusedVariables false
abbrev Pk7 := Bool × Act7
def noPk7 : Pk7 := (false, noAct7)
def Pk7.at (y : Pk7) (w : World) (p : Addr) : Prop := w.cell? p = some (.bool y.1) ∧ y.2.at w ⟨p.block, p.off + 1, none⟩
def Pokes (w : World) (A : Option Addr) (ys : List Pk7) : Prop := 0 < ys.length → ∃ ad, A = some ad ∧ ad.block < w.heap.size ∧ ∀ i, i < ys.length → Pk7.at (ys.getD i noPk7) w (ad.add (i * 6)) ∧ (ys.getD i noPk7).2.fit
theorem Pokes.ext {w w' : World} {A : Option Addr} {ys : List Pk7} (h : Pokes w A ys) (x : Ext w w') : Pokes w' A ys := fun h0 => by
  obtain ⟨ad, rfl, hb, hc⟩ := h h0
  refine ⟨ad, rfl, Nat.lt_of_lt_of_le hb x.size, fun i hi => ?_⟩
  obtain ⟨⟨b0, ⟨c0, c1, c2, c3, c4⟩⟩, hx⟩ := hc i hi
  have e : w'.heap[ad.block]? = w.heap[ad.block]? := x.block ad.block hb
  have e' : w'.heap[(ad.add (i * 6)).block]? = w.heap[(ad.add (i * 6)).block]? := by rw [add_block]; exact e
  have kk : ∀ q : Addr, q.block = (ad.add (i * 6)).block → w'.cell? q = w.cell? q := fun q hq => World.cell?_of_block (by rw [hq]; exact e')
  exact ⟨⟨(by refine Eq.trans (kk _ ?_) b0; rfl), ⟨(by refine Eq.trans (kk _ ?_) c0; rfl), (by refine Eq.trans (kk _ ?_) c1; rfl), (by refine Eq.trans (kk _ ?_) c2; rfl), (by refine Eq.trans (kk _ ?_) c3; rfl), (by refine Eq.trans (kk _ ?_) c4; rfl)⟩⟩, hx⟩
section
variable {H : Type} {enc : TypeId × Value → H} {P : Program}
end
end Go.Proofs.YtolengkegjipaaaGreat


/- A machine of package free beside the document's: how they go together; memories behind acts. Conditions: those that each theorem names. -/
namespace Go.Proofs.YtolengkegjipaaaGreat
open Go.ChangeShapes Go.WideShapes Go.ChangeAt Go.RowKit
set_option linter.unusedVariables false
theorem act_calm {n : Int} {s : MSt} (h : CalmN n s) (kd t a z x : Int) : CalmN (n + 1) (s.act kd t a z x) := by
  unfold MSt.act
  split
  · exact h.load _ _
  split
  · exact h.store _ _ _
  split
  · exact h.swap _ _ _ _
  split
  · exact CalmN.note (s := s.withDev (s.dev.flush t (lineNo a))) h _ _
  split
  · exact CalmN.note (s := s.withDev (s.dev.fence t)) h _ _
  split
  · exact CalmN.mono (s := s.withDev (s.dev.evict a)) h (by omega)
  · exact CalmN.mono (s := s.crash) h (by omega)
theorem put_fine0 {k : Nat} {s : MSt} (h : Fine k s.dev) (a x : Int) : Fine k (s.put a x).dev := by
  unfold MSt.put
  split
  · show Fine k (s.dev.store a x)
    unfold DSt.store
    split
    · exact ⟨h.srt, h.rng, h.len, h.few⟩
    · exact h
  · exact h
theorem store_fine0 {k : Nat} {s : MSt} (h : Fine k s.dev) (t a x : Int) : Fine k (s.store t a x).dev := by
  unfold MSt.store
  split
  · exact put_fine0 h a x
  · exact h
theorem putAll_fine {k : Nat} : ∀ (s : MSt) (ys : List Put), Fine k s.dev → Fine k (putAll s ys).dev
  | _, [], h => h
  | s, y :: ys, h => putAll_fine (s.store 0 y.1 y.2) ys (store_fine0 h _ _ _)
theorem ground_fine (t s l b : Nat) (ys : List Put) : Fine 0 (groundSt t s l b ys).dev := putAll_fine _ _ (fine_new _ _ _)
theorem ground_calm (t s l b : Nat) (ys : List Put) (h : ys.length ≤ 100) : CalmN 100 (groundSt t s l b ys) := by
  have hc := putAll_calm (s := startSt t s l b) rfl rfl ys ys.length (Nat.le_refl _)
  rw [List.take_of_length_le (Nat.le_refl _)] at hc
  exact CalmN.mono hc (by omega)
/-- A Pop beside the document's. -/
structure Rel (x : PMs) (r : RPo) : Prop where
  xw : x.Wf
  rw : r.Wf
  line : r.line = if x.dn = true then 0 else x.part + 1
  top : r.top = x.top
  nx : x.part = 2 → toN r.nx = x.y
  slot : r.slot = if x.dn = true then toN x.top else -1
theorem Rel.zero : Rel ⟨0, 0, 0, false⟩ ⟨1, 0, 0, -1⟩ := ⟨PMs.wf0, ⟨Or.inr (Or.inl rfl), ⟨Int.le_refl 0, by show (0 : Int) < _; decide⟩, ⟨Int.le_refl 0, by show (0 : Int) < _; decide⟩⟩, rfl, rfl, fun e => by simp at e, rfl⟩
end Go.Proofs.YtolengkegjipaaaGreat

