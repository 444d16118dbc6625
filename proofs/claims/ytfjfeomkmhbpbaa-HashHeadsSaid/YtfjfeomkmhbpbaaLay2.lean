/- While areas are laid: what is known of the layout's cells, the counter's number, the config's copy and the counter's function. Conditions: those that each theorem names. -/
import Derived.Test.YtfjfeomkmhbpbaaLay1
import Derived.Deep.RegionWith
import Derived.Deep.DeepCutAuto
import Derived.Laws.EntriesVeiled
namespace Go.Proofs.Ytfjfeomkmhbpbaa
open Go.ChangeShapes Go.WideShapes Go.ChangeAt Go.RowKit
set_option linter.unusedVariables false

/-- The function that the counter is. -/
def fnV (c : Nat) : Value := .func (.func 72) #[] #[.pointer (some ⟨c, 0, none⟩)]
structure LS (w0 : World) (g c b2 b3 : Nat) (t s l b : Int) (cs : List Value) (n : Int) (w : World) : Prop where
  lay : Blk w g 71 cs
  num : Blk w c 3 [.int .i64 n]
  cfg : Blk w b2 29 [.int .i64 t, .int .i64 s, .int .i64 l, .int .i64 b]
  fn : Blk w b3 41 [fnV c]
  fr : Fr (· = g) w0 w
  gc : g ≠ c
  gb2 : g ≠ b2
  gb3 : g ≠ b3
  cb2 : c ≠ b2
  cb3 : c ≠ b3
  c0 : w0.heap.size ≤ c
  b20 : w0.heap.size ≤ b2
  b30 : w0.heap.size ≤ b3
section
variable {w0 w : World} {g c b2 b3 : Nat} {t s l b n : Int} {cs : List Value}
theorem LS.drew (h : LS w0 g c b2 b3 t s l b cs n w) : LS w0 g c b2 b3 t s l b cs n w.drew := ⟨h.lay, h.num, h.cfg, h.fn, h.fr.drew, h.gc, h.gb2, h.gb3, h.cb2, h.cb3, h.c0, h.b20, h.b30⟩
theorem LS.next (h : LS w0 g c b2 b3 t s l b cs n w) (m : Int) : LS w0 g c b2 b3 t s l b cs m (w.setCell ⟨c, 0, none⟩ (.int .i64 m)) :=
  ⟨h.lay.far (by exact h.gc) _, h.num.set 0 _, h.cfg.far (by exact h.cb2.symm) _, h.fn.far (by exact h.cb3.symm) _, h.fr.setCell (Or.inr h.c0) _, h.gc, h.gb2, h.gb3, h.cb2, h.cb3, h.c0, h.b20, h.b30⟩
theorem LS.put (h : LS w0 g c b2 b3 t s l b cs n w) (i : Nat) (u : Value) : LS w0 g c b2 b3 t s l b (cs.set i u) n (w.setCell ⟨g, i, none⟩ u) :=
  ⟨h.lay.set i u, h.num.far (by exact h.gc.symm) _, h.cfg.far (by exact h.gb2.symm) _, h.fn.far (by exact h.gb3.symm) _, h.fr.setCell (Or.inl rfl) _, h.gc, h.gb2, h.gb3, h.cb2, h.cb3, h.c0, h.b20, h.b30⟩
theorem LS.facts (h : LS w0 g c b2 b3 t s l b cs n w) : w.cell? ⟨c, 0, none⟩ = some (.int .i64 n) ∧ w.frozen? ⟨c, 0, none⟩ = false ∧ w.cell? ⟨b2, 0, none⟩ = some (.int .i64 t) ∧ w.cell? ⟨b2, 1, none⟩ = some (.int .i64 s) ∧ w.cell? ⟨b2, 2, none⟩ = some (.int .i64 l) ∧ w.cell? ⟨b2, 3, none⟩ = some (.int .i64 b) ∧ w.cell? ⟨b3, 0, none⟩ = some (fnV c) ∧ (∀ j, w.frozen? ⟨g, j, none⟩ = false) :=
  ⟨h.num.cell 0, h.num.frozen 0, h.cfg.cell 0, h.cfg.cell 1, h.cfg.cell 2, h.cfg.cell 3, h.fn.cell 0, fun j => h.lay.frozen j⟩
theorem LS.apart (h : LS w0 g c b2 b3 t s l b cs n w) : (¬ g = c) ∧ (¬ g = b2) ∧ (¬ g = b3) ∧ (¬ c = b2) ∧ (¬ c = b3) ∧ (¬ c = g) ∧ (¬ b2 = g) ∧ (¬ b3 = g) ∧ (¬ b2 = c) ∧ (¬ b3 = c) :=
  ⟨h.gc, h.gb2, h.gb3, h.cb2, h.cb3, h.gc.symm, h.gb2.symm, h.gb3.symm, h.cb2.symm, h.cb3.symm⟩
end
theorem three (w : World) (A B C : Obj) : (((w.alloc A).alloc B).alloc C).heap[w.heap.size]? = some A ∧ (((w.alloc A).alloc B).alloc C).heap[w.heap.size + 1]? = some B ∧ (((w.alloc A).alloc B).alloc C).heap[w.heap.size + 1 + 1]? = some C := by
  refine ⟨?_, ?_, ?_⟩
  · rw [Below.heap_alloc _ _ _ (by simp; omega), Below.heap_alloc _ _ _ (by simp), heap_alloc_new]
  · rw [Below.heap_alloc _ _ _ (by simp)]
    simpa using heap_alloc_new (w.alloc A) B
  · simpa using heap_alloc_new ((w.alloc A).alloc B) C
theorem ext_three (w : World) (A B C : Obj) : Ext w (((w.alloc A).alloc B).alloc C) := (ext2 w A B).alloc C
theorem ls_0 {w : World} {g : Nat} {t s l b : Int} {cs : List Value} (h : Blk w g 71 cs) : LS w g (w.heap.size) (w.heap.size + 1) (w.heap.size + 1 + 1) t s l b cs 0 ((((w.alloc (.cells #[.int .i64 0] 3)).alloc (.cells #[.int .i64 t, .int .i64 s, .int .i64 l, .int .i64 b] 29)).alloc (.cells #[.func (.func 72) #[] #[.pointer (some ⟨w.heap.size, 0, none⟩)]] 41)).drew) := by
  have hlt := h.lt
  have h3 := three w (.cells #[.int .i64 0] 3) (.cells #[.int .i64 t, .int .i64 s, .int .i64 l, .int .i64 b] 29) (.cells #[.func (.func 72) #[] #[.pointer (some ⟨w.heap.size, 0, none⟩)]] 41)
  exact ⟨h.ext ((ext_three w _ _ _).drew), h3.1, h3.2.1, h3.2.2, (Fr.of_ext (ext_three w _ _ _)).drew, by omega, by omega, by omega, by omega, by omega, by omega, by omega, by omega⟩
theorem ls_1 {w : World} {g : Nat} {t s l b : Int} {cs : List Value} (h : Blk w g 71 cs) : LS w g (w.heap.size) (w.heap.size + 1 + 1) (w.heap.size + 1) t s l b cs 0 ((((w.alloc (.cells #[.int .i64 0] 3)).alloc (.cells #[.func (.func 72) #[] #[.pointer (some ⟨w.heap.size, 0, none⟩)]] 41)).alloc (.cells #[.int .i64 t, .int .i64 s, .int .i64 l, .int .i64 b] 29)).drew) := by
  have hlt := h.lt
  have h3 := three w (.cells #[.int .i64 0] 3) (.cells #[.func (.func 72) #[] #[.pointer (some ⟨w.heap.size, 0, none⟩)]] 41) (.cells #[.int .i64 t, .int .i64 s, .int .i64 l, .int .i64 b] 29)
  exact ⟨h.ext ((ext_three w _ _ _).drew), h3.1, h3.2.2, h3.2.1, (Fr.of_ext (ext_three w _ _ _)).drew, by omega, by omega, by omega, by omega, by omega, by omega, by omega, by omega⟩
theorem ls_2 {w : World} {g : Nat} {t s l b : Int} {cs : List Value} (h : Blk w g 71 cs) : LS w g (w.heap.size + 1) (w.heap.size) (w.heap.size + 1 + 1) t s l b cs 0 ((((w.alloc (.cells #[.int .i64 t, .int .i64 s, .int .i64 l, .int .i64 b] 29)).alloc (.cells #[.int .i64 0] 3)).alloc (.cells #[.func (.func 72) #[] #[.pointer (some ⟨w.heap.size + 1, 0, none⟩)]] 41)).drew) := by
  have hlt := h.lt
  have h3 := three w (.cells #[.int .i64 t, .int .i64 s, .int .i64 l, .int .i64 b] 29) (.cells #[.int .i64 0] 3) (.cells #[.func (.func 72) #[] #[.pointer (some ⟨w.heap.size + 1, 0, none⟩)]] 41)
  exact ⟨h.ext ((ext_three w _ _ _).drew), h3.2.1, h3.1, h3.2.2, (Fr.of_ext (ext_three w _ _ _)).drew, by omega, by omega, by omega, by omega, by omega, by omega, by omega, by omega⟩
theorem ls_3 {w : World} {g : Nat} {t s l b : Int} {cs : List Value} (h : Blk w g 71 cs) : LS w g (w.heap.size + 1 + 1) (w.heap.size) (w.heap.size + 1) t s l b cs 0 ((((w.alloc (.cells #[.int .i64 t, .int .i64 s, .int .i64 l, .int .i64 b] 29)).alloc (.cells #[.func (.func 72) #[] #[.pointer (some ⟨w.heap.size + 1 + 1, 0, none⟩)]] 41)).alloc (.cells #[.int .i64 0] 3)).drew) := by
  have hlt := h.lt
  have h3 := three w (.cells #[.int .i64 t, .int .i64 s, .int .i64 l, .int .i64 b] 29) (.cells #[.func (.func 72) #[] #[.pointer (some ⟨w.heap.size + 1 + 1, 0, none⟩)]] 41) (.cells #[.int .i64 0] 3)
  exact ⟨h.ext ((ext_three w _ _ _).drew), h3.2.2, h3.1, h3.2.1, (Fr.of_ext (ext_three w _ _ _)).drew, by omega, by omega, by omega, by omega, by omega, by omega, by omega, by omega⟩
theorem ls_4 {w : World} {g : Nat} {t s l b : Int} {cs : List Value} (h : Blk w g 71 cs) : LS w g (w.heap.size + 1) (w.heap.size + 1 + 1) (w.heap.size) t s l b cs 0 ((((w.alloc (.cells #[.func (.func 72) #[] #[.pointer (some ⟨w.heap.size + 1, 0, none⟩)]] 41)).alloc (.cells #[.int .i64 0] 3)).alloc (.cells #[.int .i64 t, .int .i64 s, .int .i64 l, .int .i64 b] 29)).drew) := by
  have hlt := h.lt
  have h3 := three w (.cells #[.func (.func 72) #[] #[.pointer (some ⟨w.heap.size + 1, 0, none⟩)]] 41) (.cells #[.int .i64 0] 3) (.cells #[.int .i64 t, .int .i64 s, .int .i64 l, .int .i64 b] 29)
  exact ⟨h.ext ((ext_three w _ _ _).drew), h3.2.1, h3.2.2, h3.1, (Fr.of_ext (ext_three w _ _ _)).drew, by omega, by omega, by omega, by omega, by omega, by omega, by omega, by omega⟩
theorem ls_5 {w : World} {g : Nat} {t s l b : Int} {cs : List Value} (h : Blk w g 71 cs) : LS w g (w.heap.size + 1 + 1) (w.heap.size + 1) (w.heap.size) t s l b cs 0 ((((w.alloc (.cells #[.func (.func 72) #[] #[.pointer (some ⟨w.heap.size + 1 + 1, 0, none⟩)]] 41)).alloc (.cells #[.int .i64 t, .int .i64 s, .int .i64 l, .int .i64 b] 29)).alloc (.cells #[.int .i64 0] 3)).drew) := by
  have hlt := h.lt
  have h3 := three w (.cells #[.func (.func 72) #[] #[.pointer (some ⟨w.heap.size + 1 + 1, 0, none⟩)]] 41) (.cells #[.int .i64 t, .int .i64 s, .int .i64 l, .int .i64 b] 29) (.cells #[.int .i64 0] 3)
  exact ⟨h.ext ((ext_three w _ _ _).drew), h3.2.2, h3.2.1, h3.1, (Fr.of_ext (ext_three w _ _ _)).drew, by omega, by omega, by omega, by omega, by omega, by omega, by omega, by omega⟩
end Go.Proofs.Ytfjfeomkmhbpbaa
