/- The document's device: words and flags that are turned, and what lines written back come to. Conditions: those that each theorem names. -/
import Derived.Test.YtolengkegjipaaaGreatKRefA
import Derived.Test.YtolengkegjipaaaGreatKFen
import Derived.BigRegion
import Derived.Deep.RegionHeld3
import Derived.IntWalk
import Derived.BigQuiet
import Derived.Deep.QuietTactic
namespace Go.Proofs.YtolengkegjipaaaGreat
open Go.ChangeShapes Go.WideShapes Go.ChangeAt Go.RowKit
set_option linter.unusedVariables false
section
variable {B n L : Nat} {w w' : World} {R : RefB} {kept seen writes : List Int} {fl : Nat → Nat → Bool} {S : Nat → Prop}
theorem IsRef.shape (h : IsRef B w R n kept seen writes fl) (hk : kept.length = L) (hs : seen.length = L) (L0 : 0 < L) (T0 : 0 < R.rows.length) :
    ∃ gk ck gs cs gf cf, R.vk = .slice (some ⟨gk, 0, none⟩) L ck ∧ R.vs = .slice (some ⟨gs, 0, none⟩) L cs ∧ R.vf = .slice (some ⟨gf, 0, none⟩) R.rows.length cf := by
  obtain ⟨gk, ck, e1, _⟩ := h.kept.at_ hk L0
  obtain ⟨gs, cs, e2, _⟩ := h.seen.at_ hs L0
  rcases h.flr.2 with ⟨_, h0⟩ | ⟨gf, cf, cur, e3, _⟩
  · rw [List.length_map] at h0; omega
  · rw [List.length_map] at e3
    exact ⟨gk, ck, gs, cs, gf, cf, e1, e2, e3⟩
theorem RowE.cell {us : List Value} {e : TypeId} {g c t : Nat} (h : RowE w B e (.slice (some ⟨g, 0, none⟩) us.length c) us) (ht : t < us.length) : w.cell? ⟨g, t, none⟩ = us[t]? := by
  rw [World.ownsRow.cellAt h t (by omega)]
theorem IsRef.setS {gs cs : Nat} (h : IsRef B w R n kept seen writes fl) (e : R.vs = .slice (some ⟨gs, 0, none⟩) L cs) (hk : seen.length = L) (j : Nat) (z : Int) :
    IsRef B (w.setCell ⟨gs, j, none⟩ (.int .u64 z)) R n kept (seen.set j z) writes fl ∧ Fr R.foot w (w.setCell ⟨gs, j, none⟩ (.int .u64 z)) := by
  have ho : R.vs.ownBlock = some gs := by rw [e]; rfl
  have f := Fr.setCell (S := fun b => b = gs) (p := ⟨gs, j, none⟩) (Fr.refl _ w) (Or.inl rfl) (.int .u64 z)
  refine ⟨⟨h.blk.fr f (fun c => h.seen.blk h.blk (by decide) (by rw [c]; exact ho)), h.kept.fr f (fun b hb c => h.ks gs (by rw [← c]; exact hb) ho), ?_, h.writes.fr f (fun b hb c => h.seen.row2 h.writes (by decide) gs ho (by rw [← c]; exact hb)), h.flr.fr f (fun b hb c => h.seen.row h.flr (by decide) gs ho (by rw [← c]; exact hb)), fun t ht => (h.row t ht).fr f (fun c => h.seen.blk (h.row t ht) (by decide) (by rw [c]; exact ho)), h.nd, h.ks, h.bg, h.br⟩, f.mono fun b _ c => by rw [c]; exact Or.inr (Or.inr (Or.inl ho))⟩
  have h2 := RowN.of_row h.seen
  rw [e, hk] at h2
  rw [e]
  exact (h2.set (j := j) z).row
theorem flags_set (n : Nat) (f : Nat → Bool) (p : Nat) (b : Bool) : (flags n f).set p (.bool b) = flags n (fun q => if q = p then b else f q) := by
  unfold flags
  apply List.ext_getElem
  · simp
  · intro i h1 h2
    simp only [List.length_set, List.length_map, List.length_range] at h1
    rw [List.getElem_set]
    by_cases c : p = i
    · subst c; simp
    · have c' : ¬ i = p := fun e => c e.symm
      simp [c, c']
theorem flags_congr {n : Nat} {f g : Nat → Bool} (h : ∀ p, p < n → f p = g p) : flags n f = flags n g := by
  unfold flags
  apply List.map_congr_left
  intro i hi
  rw [h i (by simpa using hi)]
end
end Go.Proofs.YtolengkegjipaaaGreat


/- The document's device: Load, Store, and Do where it flushes, or refuses. Conditions: those that each theorem names. -/
namespace Go.Proofs.YtolengkegjipaaaGreat
open Go.ChangeShapes Go.WideShapes Go.ChangeAt Go.RowKit
set_option linter.unusedVariables false
section
variable {B : Nat} {w : World} {R : RefB} {s : DSt}
theorem RefAt.sh (h : RefAt B w R s) (n0 : 0 < s.n) (T0 : 0 < s.T) : ∃ gk ck gs cs gf cf, R.vk = .slice (some ⟨gk, 0, none⟩) (s.n * 8) ck ∧ R.vs = .slice (some ⟨gs, 0, none⟩) (s.n * 8) cs ∧ R.vf = .slice (some ⟨gf, 0, none⟩) s.T cf := by
  have := h.is.shape h.lk h.ls (by omega) (by rw [h.lr]; exact T0)
  rw [h.lr] at this
  exact this
theorem RefAt.store (h : RefAt B w R s) (n0 : 0 < s.n) {gs cs : Nat} (e : R.vs = .slice (some ⟨gs, 0, none⟩) (s.n * 8) cs) (p : Nat) (x : Int) :
    RefAt B (w.setCell ⟨gs, p, none⟩ (.int .u64 x)) R { s with seen := s.seen.set p x } ∧ Fr R.foot w (w.setCell ⟨gs, p, none⟩ (.int .u64 x)) := by
  obtain ⟨h1, f⟩ := h.is.setS e h.ls p x
  exact ⟨⟨h1, h.lr, h.lk, by simp only [List.length_set]; exact h.ls⟩, f⟩
end
end Go.Proofs.YtolengkegjipaaaGreat


/- The document's device: Do where lines are written back, and where all is lost. Conditions: those that each theorem names. -/
namespace Go.Proofs.YtolengkegjipaaaGreat
open Go.ChangeShapes Go.WideShapes Go.ChangeAt Go.RowKit
set_option linter.unusedVariables false
end Go.Proofs.YtolengkegjipaaaGreat


/- The document's device: Do, evict. Conditions: those that each theorem names. -/
namespace Go.Proofs.YtolengkegjipaaaGreat
open Go.ChangeShapes Go.WideShapes Go.ChangeAt Go.RowKit
set_option linter.unusedVariables false
end Go.Proofs.YtolengkegjipaaaGreat


/- The document's device: Do, crash. Conditions: those that each theorem names. -/
namespace Go.Proofs.YtolengkegjipaaaGreat
open Go.ChangeShapes Go.WideShapes Go.ChangeAt Go.RowKit
set_option linter.unusedVariables false
end Go.Proofs.YtolengkegjipaaaGreat


/- The document's device: its acts over the state of the program's. Conditions: those that each theorem names. -/
namespace Go.Proofs.YtolengkegjipaaaGreat
open Go.ChangeShapes Go.WideShapes Go.ChangeAt Go.RowKit
set_option linter.unusedVariables false
section
variable {B i : Nat} {w : World} {R : RefB} {s : DSt}
/-- What the acts ask for. -/
structure Sound (s : DSt) : Prop where
  n0 : 0 < s.n
  n1 : s.n ≤ 262144
  T0 : 0 < s.T
  T1 : s.T ≤ 64
  lf : s.fl.length = s.T
theorem RefAt.big (h : RefAt B w R s) : Big s := ⟨h.lk, h.ls⟩
end
end Go.Proofs.YtolengkegjipaaaGreat


/- limekilnlaw04.same: a device and the document's that hold one state are the same. Conditions: those that each theorem names. -/
namespace Go.Proofs.YtolengkegjipaaaGreat
open Go.ChangeShapes Go.WideShapes Go.ChangeAt Go.RowKit
set_option linter.unusedVariables false
/-- How many are below. -/
def below (l : List Int) (p : Int) : Nat := l.countP (fun y => decide (y < p))
section
variable {Q : Nat → Prop} {wb w0 w : World} {v : Value} {s : DSt}
theorem AtQ.sound (h : AtQ Q wb w0 w v s) : Sound s := by
  obtain ⟨D, rfl, h, ext, hQ⟩ := h
  exact ⟨h.n0, h.n1, h.T0, h.T1, h.lfl⟩
end
section
variable {B i : Nat} {w w' : World} {R : RefB} {s : DSt}
/-- Nothing of it has turned. -/
theorem IsRef.heldQ {n : Nat} {kept seen writes : List Int} {fl : Nat → Nat → Bool} (h : IsRef B w R n kept seen writes fl) (hk : ∀ b, R.foot b → w'.heap[b]? = w.heap[b]?) : IsRef B w' R n kept seen writes fl where
  blk := (hk _ (Or.inl rfl)).trans h.blk
  kept := (RowN.kept (RowN.of_row h.kept) (fun b hb => hk b (Or.inr (Or.inl hb)))).row
  seen := (RowN.kept (RowN.of_row h.seen) (fun b hb => hk b (Or.inr (Or.inr (Or.inl hb))))).row
  writes := (RowN.kept (RowN.of_row h.writes) (fun b hb => hk b (Or.inr (Or.inr (Or.inr (Or.inl (by simpa [Value.ownBlock] using hb.symm))))))).row
  flr := h.flr.kept (fun b hb => hk b (Or.inr (Or.inr (Or.inr (Or.inr (Or.inl hb))))))
  row := fun t ht => (hk _ (Or.inr (Or.inr (Or.inr (Or.inr (Or.inr (rows_mem ht))))))).trans (h.row t ht)
  nd := h.nd
  ks := h.ks
  bg := h.bg
  br := h.br
theorem RefAt.heldQ (h : RefAt B w R s) (hk : ∀ b, R.foot b → w'.heap[b]? = w.heap[b]?) : RefAt B w' R s := ⟨h.is.heldQ hk, h.lr, h.lk, h.ls⟩
end
end Go.Proofs.YtolengkegjipaaaGreat

