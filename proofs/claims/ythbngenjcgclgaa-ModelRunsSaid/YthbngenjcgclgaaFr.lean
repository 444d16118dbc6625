/- What a call may turn: 'Fr', that of the old blocks at most those of a set have turned; blocks that are known whole; rows under a store. Conditions: those that each theorem names. -/
import Derived.Test.YthbngenjcgclgaaMem
namespace Go.Proofs.Ythbngenjcgclgaa
open Go.ChangeShapes Go.WideShapes Go.ChangeAt Go.RowKit
set_option linter.unusedVariables false
/-- Of the blocks that were there at most those of S have turned. -/
structure Fr (S : Nat → Prop) (w w' : World) : Prop where
  os : w'.os = w.os
  tape : w'.tape = w.tape
  output : w'.output = w.output
  size : w.heap.size ≤ w'.heap.size
  block : ∀ g, g < w.heap.size → ¬ S g → w'.heap[g]? = w.heap[g]?
section
variable {S S' : Nat → Prop} {a b c w w' : World}
theorem Fr.of_ext (h : Ext a b) : Fr S a b := ⟨h.os, h.tape, h.output, h.size, fun g hg _ => h.block g hg⟩
theorem Fr.refl (S : Nat → Prop) (a : World) : Fr S a a := Fr.of_ext (Ext.refl a)
theorem Fr.trans (h : Fr S a b) (k : Fr S' b c) (hS : ∀ g, g < a.heap.size → S' g → S g) : Fr S a c :=
  ⟨k.os.trans h.os, k.tape.trans h.tape, k.output.trans h.output, Nat.le_trans h.size k.size, fun g hg hn => (k.block g (Nat.lt_of_lt_of_le hg h.size) (fun hs => hn (hS g hg hs))).trans (h.block g hg hn)⟩
theorem Fr.then_ext (h : Fr S a b) (k : Ext b c) : Fr S a c := h.trans (Fr.of_ext (S := fun _ => False) k) (fun _ _ hs => hs.elim)
theorem Fr.mono (h : Fr S a b) (hS : ∀ g, g < a.heap.size → S g → S' g) : Fr S' a b := ⟨h.os, h.tape, h.output, h.size, fun g hg hn => h.block g hg (fun hs => hn (hS g hg hs))⟩
theorem Fr.drew (h : Fr S a b) : Fr S a b.drew := ⟨h.os, h.tape, h.output, h.size, h.block⟩
theorem Fr.alloc (h : Fr S a b) (o : Obj) : Fr S a (b.alloc o) := h.then_ext ((Ext.refl b).alloc o)
theorem Fr.setCell (h : Fr S a b) {p : Addr} (hp : S p.block ∨ a.heap.size ≤ p.block) (u : Value) : Fr S a (b.setCell p u) :=
  ⟨h.os, h.tape, h.output, by simpa [World.setCell] using h.size, fun g hg hn => (Below.heap_setCell b p u g (fun e => by
    subst e
    rcases hp with hp | hp
    · exact hn hp
    · omega)).trans (h.block g hg hn)⟩
theorem Fr.ext (h : Fr S a b) (x : Ext w a) (hS : ∀ g, S g → w.heap.size ≤ g) : Ext w b :=
  ⟨h.os.trans x.os, h.tape.trans x.tape, h.output.trans x.output, Nat.le_trans x.size h.size, fun g hg => (h.block g (Nat.lt_of_lt_of_le hg x.size) (fun hs => by have := hS g hs; omega)).trans (x.block g hg)⟩
theorem Ints.fr {k : IntKind} {A : Option Addr} {zs : List Int} (h : Ints a k A zs) (x : Fr S a b) (hS : ∀ ad, A = some ad → ¬ S ad.block) : Ints b k A zs := fun hn => by
  obtain ⟨ad, e, hb, hc⟩ := h hn
  refine ⟨ad, e, Nat.lt_of_lt_of_le hb x.size, fun j hj => ?_⟩
  rw [← hc j hj]
  exact World.cell?_of_block (by rw [add_block]; exact x.block _ hb (hS ad e))
end
/-- A block that is known whole. -/
def Blk (w : World) (g : Nat) (t : TypeId) (cs : List Value) : Prop := w.heap[g]? = some (.cells cs.toArray t (0, 0))
section
variable {w w' : World} {g : Nat} {t : TypeId} {cs : List Value} {S : Nat → Prop}
theorem Blk.lt (h : Blk w g t cs) : g < w.heap.size := (Array.getElem?_eq_some_iff.1 h).1
theorem Blk.cell (h : Blk w g t cs) (i : Nat) : w.cell? ⟨g, i, none⟩ = cs[i]? := by
  have := cell_of_row w g i cs.toArray t (0, 0) h
  simpa using this
theorem Blk.frozen (h : Blk w g t cs) (i : Nat) : w.frozen? ⟨g, i, none⟩ = false := by
  unfold Blk at h
  simp [World.frozen?, h]
theorem Blk.new (w : World) (t : TypeId) (cs : List Value) : Blk (w.alloc (.cells cs.toArray t)) w.heap.size t cs := heap_alloc_new w _
theorem Blk.fr (h : Blk w g t cs) (x : Fr S w w') (hS : ¬ S g) : Blk w' g t cs := (x.block g h.lt hS).trans h
theorem Blk.ext (h : Blk w g t cs) (x : Ext w w') : Blk w' g t cs := (x.block g h.lt).trans h
theorem Blk.set (h : Blk w g t cs) (i : Nat) (u : Value) : Blk (w.setCell ⟨g, i, none⟩ u) g t (cs.set i u) := by
  unfold Blk at h ⊢
  simp [World.setCell, Array.getElem?_modify, h]
theorem Blk.far (h : Blk w g t cs) {p : Addr} (hp : g ≠ p.block) (u : Value) : Blk (w.setCell p u) g t cs := (Below.heap_setCell w p u g hp).trans h
theorem Blk.ne_row {B n size : Nat} {e : TypeId} {k : IntKind} {v : Value} {zs : List Int} (h : Blk w g t cs) (hr : RowN w B e size k v n zs) (hne : e ≠ t) : v.ownBlock ≠ some g := by
  rcases hr.2 with ⟨rfl, _⟩ | ⟨g', cap, cur, rfl, _, hh, _⟩
  · simp [Value.ownBlock]
  · intro he
    have : g' = g := by simpa [Value.ownBlock] using he
    subst this
    unfold Blk at h
    rw [h] at hh
    injection hh with hh
    injection hh with _ h2
    exact hne h2.symm
theorem Blk.ne {g' : Nat} {t' : TypeId} {cs' : List Value} (h : Blk w g t cs) (h' : Blk w g' t' cs') (hne : t ≠ t') : g ≠ g' := by
  rintro rfl
  unfold Blk at h h'
  rw [h] at h'
  injection h' with h'
  injection h' with _ h2
  exact hne h2
end
section
variable {w w' : World} {B n size : Nat} {e : TypeId} {k : IntKind} {v : Value} {zs : List Int} {S : Nat → Prop}
theorem RowN.fr (h : RowN w B e size k v n zs) (x : Fr S w w') (hS : ∀ g, v.ownBlock = some g → ¬ S g) : RowN w' B e size k v n zs :=
  h.kept fun g hg => x.block g (World.ownsRow.lt h g hg).2 (hS g hg)
theorem Row.fr (h : Row w B e k v zs) (x : Fr S w w') (hS : ∀ g, v.ownBlock = some g → ¬ S g) : Row w' B e k v zs := (RowN.fr (RowN.of_row h) x hS).row
theorem Row.far (h : Row w B e k v zs) {p : Addr} (hp : v.ownBlock ≠ some p.block) (u : Value) : Row (w.setCell p u) B e k v zs :=
  h.fr (S := fun g => g = p.block) (Fr.setCell (S := fun g => g = p.block) (p := p) (Fr.refl _ w) (Or.inl rfl) u) (fun g hg e => hp (by rw [hg, e]))
theorem RowN.far (h : RowN w B e size k v n zs) {p : Addr} (hp : v.ownBlock ≠ some p.block) (u : Value) : RowN (w.setCell p u) B e size k v n zs :=
  h.fr (S := fun g => g = p.block) (Fr.setCell (S := fun g => g = p.block) (p := p) (Fr.refl _ w) (Or.inl rfl) u) (fun g hg e => hp (by rw [hg, e]))
/-- A word stored into a row. -/
theorem RowN.set {g c j : Nat} (h : RowN w B e size k (.slice (some ⟨g, 0, none⟩) n c) n zs) (z : Int) : RowN (w.setCell ⟨g, j, none⟩ (.int k z)) B e size k (.slice (some ⟨g, 0, none⟩) n c) n (zs.set j z) := by
  have h2 := (World.ownsRow.stored h j (.int k z)).1
  unfold RowN
  rw [List.map_set]
  exact h2
theorem RowN.cell {g c j : Nat} (h : RowN w B e size k (.slice (some ⟨g, 0, none⟩) n c) n zs) (hj : j < n * size) : w.cell? ⟨g, j, none⟩ = some (.int k (zs.getD j 0)) := by
  rw [World.ownsRow.cellAt h j hj]
  have hl := h.len
  simp [List.getD_eq_getElem?_getD, show j < zs.length from by omega]
theorem RowN.frozen {g c : Nat} (h : RowN w B e size k (.slice (some ⟨g, 0, none⟩) n c) n zs) (j : Nat) : w.frozen? ⟨g, j, none⟩ = false := World.ownsRow.frozenAt h j
theorem RowN.at_ (h : RowN w B e size k v n zs) (hn : 0 < n) : ∃ g c, v = .slice (some ⟨g, 0, none⟩) n c ∧ n ≤ c ∧ c ≤ maxLen ∧ B ≤ g ∧ g < w.heap.size := by
  rcases h.2 with ⟨hv, h0⟩ | ⟨g, cap, cur, hv, hg, hh, hnc, hcm, _⟩
  · omega
  · exact ⟨g, cap, hv, hnc, hcm, hg, (Array.getElem?_eq_some_iff.1 hh).1⟩
end
end Go.Proofs.Ythbngenjcgclgaa
