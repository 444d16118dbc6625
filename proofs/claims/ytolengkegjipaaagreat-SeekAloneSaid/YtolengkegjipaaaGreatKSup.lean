/- Numbers alone: the state of the sum behind a bit, a byte, a word, and many; that it is linear, and that one bit makes another. Conditions: those that each theorem names. -/
import Derived.WalkKit
import Derived.Test.YtolengkegjipaaaGreatKBase
import Derived.Lib.SlBytesConst
import Derived.RegionTactic
import Derived.Test.YtolengkegjipaaaGreatArgs
import Derived.Laws.CopyOwn
import Derived.Laws.StructEq
namespace Go.Proofs.YtolengkegjipaaaGreat.SM
open Go.RowKit

end Go.Proofs.YtolengkegjipaaaGreat.SM


/- What each function of package sum answers: the state behind a bit, a byte, a word, bytes, words. Conditions: each argument lies in its type; a slice reads as the list that is named. -/
namespace Go.Proofs.YtolengkegjipaaaGreat
open Go.ChangeShapes Go.WideShapes Go.ChangeAt Go.RowKit
set_option linter.unusedVariables false

theorem reti {k : IntKind} {a b : Int} (h : a = b) : Ending.returned (.int k a) = .returned (.int k b) := by rw [h]

end Go.Proofs.YtolengkegjipaaaGreat


/- Numbers alone: dividing by the polynomial, bit by bit, leaves the state of the sum; the bits of bytes and of words, one behind the other. Conditions: those that each theorem names. -/
namespace Go.Proofs.YtolengkegjipaaaGreat.SM
open Go.RowKit

def Bt (x k : Nat) : Nat := x / 2 ^ k % 2
/-- The divisor. -/
def dv (m : Nat) : Nat := if m = 0 then 1 else if m ≤ 32 then Bt 2197175160 (m - 1) else 0
end Go.Proofs.YtolengkegjipaaaGreat.SM


/- What the reference's functions of layer 2 answer: a number's bits, the divisor, what is left by dividing. Conditions: each argument lies in its type; a slice reads as the list that is named, of up to a million. -/
namespace Go.Proofs.YtolengkegjipaaaGreat
open Go.ChangeShapes Go.WideShapes Go.ChangeAt Go.RowKit
set_option linter.unusedVariables false

theorem int_info : (Tryz.prog.info? 3).map (fun i => (i.zero, i.size, i.bytes)) = some (some (.int .i64 0), 1, 8) := by kernel_rfl

namespace SM
end SM

/-- The cells of a block, each by its number, none of them frozen. -/
def Cells (w : World) (g n : Nat) (F : Nat → Nat) : Prop := ∀ j, j < n → w.cell? ⟨g, j, none⟩ = some (.int .i64 (F j : Nat)) ∧ w.frozen? ⟨g, j, none⟩ = false
theorem Cells.drew {w : World} {g n : Nat} {F : Nat → Nat} (h : Cells w g n F) : Cells w.drew g n F := h
theorem Cells.ext {w w' : World} {g n : Nat} {F : Nat → Nat} (h : Cells w g n F) (x : Ext w w') (hg : g < w.heap.size) : Cells w' g n F := fun j hj =>
  ⟨(Below.cell x.below (by exact hg)).trans (h j hj).1, (Below.frozen x.below (by exact hg)).trans (h j hj).2⟩
theorem Cells.set {w : World} {g n : Nat} {F : Nat → Nat} (h : Cells w g n F) (i z : Nat) (hi : i < n) : Cells (w.setCell ⟨g, i, none⟩ (.int .i64 (z : Nat))) g n (fun j => if j = i then z else F j) := fun j hj => by
  refine ⟨?_, by rw [World.frozen?_setCell]; exact (h j hj).2⟩
  by_cases e : j = i
  · subst e
    show _ = some (Value.int .i64 ((if j = j then z else F j : Nat) : Int))
    rw [if_pos rfl]
    exact World.cell?_setCell_same _ _ _ (h j hj).1
  · show _ = some (Value.int .i64 ((if j = i then z else F j : Nat) : Int))
    rw [if_neg e, World.cell?_setCell_other _ _ _ _ (by intro e2; injection e2 with _ e3; exact e e3.symm)]
    exact (h j hj).1
theorem Cells.far {w : World} {g g' n i : Nat} {F : Nat → Nat} {u : Value} (h : Cells w g n F) (hne : g' ≠ g) : Cells (w.setCell ⟨g', i, none⟩ u) g n F := fun j hj =>
  ⟨by rw [World.cell?_setCell_other _ _ _ _ (by intro e2; injection e2 with e3; exact hne e3)]; exact (h j hj).1, by rw [World.frozen?_setCell]; exact (h j hj).2⟩
theorem Cells.same {w : World} {g n : Nat} {F G : Nat → Nat} (h : Cells w g n F) (e : ∀ j, j < n → F j = G j) : Cells w g n G := fun j hj => by rw [← e j hj]; exact h j hj
theorem Row.cells {w : World} {B g n c : Nat} {zs : List Int} {F : Nat → Nat} (h : Row w B 3 .i64 (.slice (some ⟨g, 0, none⟩) n c) zs) (hn : zs.length = n) (e : ∀ j, j < n → zs.getD j 0 = (F j : Nat)) : Cells w g n F := fun j hj => by
  have h' : w.ownsRow B 3 1 (.slice (some ⟨g, 0, none⟩) n c) n (zs.map (Value.int .i64)) := by rw [← hn]; rw [← hn] at h; exact h
  refine ⟨?_, h'.frozenAt j⟩
  rw [h'.cellAt j (by omega), ← e j hj]
  simp [List.getD_eq_getElem?_getD, show j < zs.length from by omega]

end Go.Proofs.YtolengkegjipaaaGreat


/- What the reference's sums of bytes and of words answer. Conditions: each argument lies in its type; a slice reads as the list that is named, of up to 10000. -/
namespace Go.Proofs.YtolengkegjipaaaGreat
open Go.ChangeShapes Go.WideShapes Go.ChangeAt Go.RowKit
set_option linter.unusedVariables false

namespace SM
end SM

namespace SM
end SM

end Go.Proofs.YtolengkegjipaaaGreat


/- What Right of package super and of the document's answer for it tell; the words of a config's line, and its sum. Conditions: those that each theorem names. -/
namespace Go.Proofs.YtolengkegjipaaaGreat
open Go.ChangeShapes Go.WideShapes Go.ChangeAt Go.RowKit
set_option linter.unusedVariables false

def CfgOk (t s l b : Int) : Prop := (1 ≤ t ∧ t ≤ 64) ∧ (1 ≤ s ∧ s ≤ 65536) ∧ (1 ≤ l ∧ l ≤ 64) ∧ (1 ≤ b ∧ b ≤ 64)
theorem within_yes (n m : Int) (w : World) (h : 1 ≤ n ∧ n ≤ m) :
    Calls Tryz.prog 62 #[.int .i64 n, .int .i64 m] w fun e w' => e = .returned (.bool true) ∧ w = w' := by
  obtain ⟨h1, h2⟩ := h
  go_enter Tryz.func62, Tryz.ntmps62
  go_wp2
  all_goals first | (go_ret; exact ⟨rfl, rfl⟩) | omega
theorem right_yes (t s l b : Int) (w : World) (h : CfgOk t s l b) :
    Calls Tryz.prog 41 #[.agg #[.int .i64 t, .int .i64 s, .int .i64 l, .int .i64 b]] w fun e w' => e = .returned (.bool true) ∧ Ext w w' := by
  obtain ⟨h1, h2, h3, h4⟩ := h
  go_enter Tryz.func41, Tryz.ntmps41
  go_wp2_with fail
  refine (within_yes t 64 _ h1).mono ?_
  rintro e w' ⟨rfl, rfl⟩
  go_wp2_with fail
  refine (within_yes s 65536 _ h2).mono ?_
  rintro e w' ⟨rfl, rfl⟩
  go_wp2_with fail
  refine (within_yes l 64 _ h3).mono ?_
  rintro e w' ⟨rfl, rfl⟩
  go_wp2_with fail
  refine (within_yes b 64 _ h4).mono ?_
  rintro e w' ⟨rfl, rfl⟩
  go_wp2_with fail
  go_ret
  exact ⟨rfl, (Ext.refl w).alloc _⟩
theorem rright_yes (t s l b : Int) (w : World) (h : CfgOk t s l b) :
    Calls Tryz.prog 17 #[.agg #[.int .i64 t, .int .i64 s, .int .i64 l, .int .i64 b]] w fun e w' => e = .returned (.bool true) ∧ Ext w w' := by
  obtain ⟨⟨h1, h2⟩, ⟨h3, h4⟩, ⟨h5, h6⟩, h7, h8⟩ := h
  go_enter Tryz.func17, Tryz.ntmps17
  go_wp2
  all_goals first | (go_ret; exact ⟨rfl, (Ext.refl w).alloc _⟩) | omega
theorem cfg_first {t s l b : Int} (h : ¬ CfgOk t s l b) : (¬ 1 ≤ t) ∨ (1 ≤ t ∧ ¬ t ≤ 64) ∨ (1 ≤ t ∧ t ≤ 64 ∧ ¬ 1 ≤ s) ∨ (1 ≤ t ∧ t ≤ 64 ∧ 1 ≤ s ∧ ¬ s ≤ 65536) ∨ (1 ≤ t ∧ t ≤ 64 ∧ 1 ≤ s ∧ s ≤ 65536 ∧ ¬ 1 ≤ l) ∨ (1 ≤ t ∧ t ≤ 64 ∧ 1 ≤ s ∧ s ≤ 65536 ∧ 1 ≤ l ∧ ¬ l ≤ 64) ∨ (1 ≤ t ∧ t ≤ 64 ∧ 1 ≤ s ∧ s ≤ 65536 ∧ 1 ≤ l ∧ l ≤ 64 ∧ ¬ 1 ≤ b) ∨ (1 ≤ t ∧ t ≤ 64 ∧ 1 ≤ s ∧ s ≤ 65536 ∧ 1 ≤ l ∧ l ≤ 64 ∧ 1 ≤ b ∧ ¬ b ≤ 64) := by
  unfold CfgOk at h
  omega
theorem rright_no (t s l b : Int) (w : World) (h : ¬ CfgOk t s l b) :
    Calls Tryz.prog 17 #[.agg #[.int .i64 t, .int .i64 s, .int .i64 l, .int .i64 b]] w fun e w' => e = .returned (.bool false) ∧ Ext w w' := by
  rcases cfg_first h with h | ⟨h1, h⟩ | ⟨h1, h2, h⟩ | ⟨h1, h2, h3, h⟩ | ⟨h1, h2, h3, h4, h⟩ | ⟨h1, h2, h3, h4, h5, h⟩ | ⟨h1, h2, h3, h4, h5, h6, h⟩ | ⟨h1, h2, h3, h4, h5, h6, h7, h⟩
  all_goals
    go_enter Tryz.func17, Tryz.ntmps17
    go_wp2
    go_ret
    exact ⟨rfl, (Ext.refl w).alloc _⟩
end Go.Proofs.YtolengkegjipaaaGreat


/- The line of a config, as package super and as the document's answer make it. Conditions: those that each theorem names. -/
namespace Go.Proofs.YtolengkegjipaaaGreat
open Go.ChangeShapes Go.WideShapes Go.ChangeAt Go.RowKit
set_option linter.unusedVariables false

theorem word_info : (Tryz.prog.info? 53).map (fun i => (i.zero, i.size, i.bytes)) = some (some (.int .u64 0), 1, 8) := by kernel_rfl
theorem bcell {W w1 : World} (hb : Below W.heap.size W w1) : (∀ b o, b < W.heap.size → w1.cell? ⟨b, o, none⟩ = W.cell? ⟨b, o, none⟩) ∧ (∀ b o, b < W.heap.size → w1.frozen? ⟨b, o, none⟩ = W.frozen? ⟨b, o, none⟩) :=
  ⟨fun b o h => hb.cell (p := ⟨b, o, none⟩) h, fun b o h => hb.frozen (p := ⟨b, o, none⟩) h⟩
end Go.Proofs.YtolengkegjipaaaGreat


/- Two lines, two configs compared by their value. Conditions: none. -/
namespace Go.Proofs.YtolengkegjipaaaGreat
open Go.ChangeShapes Go.WideShapes Go.ChangeAt Go.RowKit
set_option linter.unusedVariables false
end Go.Proofs.YtolengkegjipaaaGreat


/- The config of a line, as package super reads it. Conditions: those that each theorem names. -/
namespace Go.Proofs.YtolengkegjipaaaGreat
open Go.ChangeShapes Go.WideShapes Go.ChangeAt Go.RowKit
set_option linter.unusedVariables false

end Go.Proofs.YtolengkegjipaaaGreat


/- Which config of two lines is read, by package super; the config of a line by the document's answer. Conditions: those that each theorem names. -/
namespace Go.Proofs.YtolengkegjipaaaGreat
open Go.ChangeShapes Go.WideShapes Go.ChangeAt Go.RowKit
set_option linter.unusedVariables false

end Go.Proofs.YtolengkegjipaaaGreat


/- The page's example of layer 5; the cells of lines and configs behind calls. Conditions: those that each theorem names. -/
namespace Go.Proofs.YtolengkegjipaaaGreat
open Go.ChangeShapes Go.WideShapes Go.ChangeAt Go.RowKit
set_option linter.unusedVariables false

/-- The cells of a config at a block. -/
def C4 (w : World) (g : Nat) (a b c d : Int) : Prop := w.cell? ⟨g, 0, none⟩ = some (.int .i64 a) ∧ w.cell? ⟨g, 1, none⟩ = some (.int .i64 b) ∧ w.cell? ⟨g, 2, none⟩ = some (.int .i64 c) ∧ w.cell? ⟨g, 3, none⟩ = some (.int .i64 d)
/-- The cells of a line at a block. -/
def C8 (w : World) (g : Nat) (x0 x1 x2 x3 x4 x5 x6 x7 : Int) : Prop := w.cell? ⟨g, 0, none⟩ = some (.int .u64 x0) ∧ w.cell? ⟨g, 1, none⟩ = some (.int .u64 x1) ∧ w.cell? ⟨g, 2, none⟩ = some (.int .u64 x2) ∧ w.cell? ⟨g, 3, none⟩ = some (.int .u64 x3) ∧ w.cell? ⟨g, 4, none⟩ = some (.int .u64 x4) ∧ w.cell? ⟨g, 5, none⟩ = some (.int .u64 x5) ∧ w.cell? ⟨g, 6, none⟩ = some (.int .u64 x6) ∧ w.cell? ⟨g, 7, none⟩ = some (.int .u64 x7)
theorem C4.ext {w w' : World} {g : Nat} {a b c d : Int} (h : C4 w g a b c d) (x : Ext w w') (hg : g < w.heap.size) : C4 w' g a b c d := by
  obtain ⟨h0, h1, h2, h3⟩ := h
  exact ⟨(Below.cell x.below (by exact hg)).trans h0, (Below.cell x.below (by exact hg)).trans h1, (Below.cell x.below (by exact hg)).trans h2, (Below.cell x.below (by exact hg)).trans h3⟩
theorem C8.ext {w w' : World} {g : Nat} {x0 x1 x2 x3 x4 x5 x6 x7 : Int} (h : C8 w g x0 x1 x2 x3 x4 x5 x6 x7) (x : Ext w w') (hg : g < w.heap.size) : C8 w' g x0 x1 x2 x3 x4 x5 x6 x7 := by
  obtain ⟨h0, h1, h2, h3, h4, h5, h6, h7⟩ := h
  exact ⟨(Below.cell x.below (by exact hg)).trans h0, (Below.cell x.below (by exact hg)).trans h1, (Below.cell x.below (by exact hg)).trans h2, (Below.cell x.below (by exact hg)).trans h3, (Below.cell x.below (by exact hg)).trans h4, (Below.cell x.below (by exact hg)).trans h5, (Below.cell x.below (by exact hg)).trans h6, (Below.cell x.below (by exact hg)).trans h7⟩
theorem C4.new (w : World) (a b c d : Int) (t : TypeId) : C4 (w.alloc (.cells #[.int .i64 a, .int .i64 b, .int .i64 c, .int .i64 d] t)) w.heap.size a b c d := by
  unfold C4
  refine ⟨?_, ?_, ?_, ?_⟩ <;> (rw [cell_of_row _ _ _ _ _ _ (heap_alloc_new w _)]; rfl)
theorem C8.new (w : World) (x0 x1 x2 x3 x4 x5 x6 x7 : Int) (t : TypeId) : C8 (w.alloc (.cells #[.int .u64 x0, .int .u64 x1, .int .u64 x2, .int .u64 x3, .int .u64 x4, .int .u64 x5, .int .u64 x6, .int .u64 x7] t)) w.heap.size x0 x1 x2 x3 x4 x5 x6 x7 := by
  unfold C8
  refine ⟨?_, ?_, ?_, ?_, ?_, ?_, ?_, ?_⟩ <;> (rw [cell_of_row _ _ _ _ _ _ (heap_alloc_new w _)]; rfl)
theorem C4.alloc {w : World} {g : Nat} {a b c d : Int} (h : C4 w g a b c d) (hg : g < w.heap.size) (o : Obj) : C4 (w.alloc o) g a b c d := h.ext ((Ext.refl w).alloc o) hg
theorem C8.alloc {w : World} {g : Nat} {x0 x1 x2 x3 x4 x5 x6 x7 : Int} (h : C8 w g x0 x1 x2 x3 x4 x5 x6 x7) (hg : g < w.heap.size) (o : Obj) : C8 (w.alloc o) g x0 x1 x2 x3 x4 x5 x6 x7 := h.ext ((Ext.refl w).alloc o) hg
theorem C4.far {w : World} {g g' j : Nat} {a b c d : Int} {u : Value} (h : C4 w g a b c d) (hne : g' ≠ g) : C4 (w.setCell ⟨g', j, none⟩ u) g a b c d := by
  obtain ⟨h0, h1, h2, h3⟩ := h
  refine ⟨?_, ?_, ?_, ?_⟩ <;> (rw [World.cell?_setCell_other _ _ _ _ (by intro e2; injection e2 with e3; exact hne e3)]; assumption)
theorem C8.far {w : World} {g g' j : Nat} {x0 x1 x2 x3 x4 x5 x6 x7 : Int} {u : Value} (h : C8 w g x0 x1 x2 x3 x4 x5 x6 x7) (hne : g' ≠ g) : C8 (w.setCell ⟨g', j, none⟩ u) g x0 x1 x2 x3 x4 x5 x6 x7 := by
  obtain ⟨h0, h1, h2, h3, h4, h5, h6, h7⟩ := h
  refine ⟨?_, ?_, ?_, ?_, ?_, ?_, ?_, ?_⟩ <;> (rw [World.cell?_setCell_other _ _ _ _ (by intro e2; injection e2 with e3; exact hne e3)]; assumption)
end Go.Proofs.YtolengkegjipaaaGreat

