/- The functions that lay areas one behind the other; how many lines so many words take. Conditions: those that each theorem names. -/
import Derived.Test.YtolengkegjipaaaGreatKSup
import Derived.Test.YtolengkegjipaaaGreatKMF
import Derived.Deep.RegionWith
import Derived.Deep.DeepCutAuto
import Derived.Laws.EntriesVeiled
namespace Go.Proofs.YtolengkegjipaaaGreat
open Go.ChangeShapes Go.WideShapes Go.ChangeAt Go.RowKit
set_option linter.unusedVariables false

theorem linesOf_any (n : Int) (w : World) (h0 : 0 ≤ n) (h1 : n ≤ 1000000) :
    Calls Tryz.prog 65 #[.int .i64 n] w fun e w' => e = .returned (.int .i64 ((n + 7) / 8)) ∧ w = w' := by
  go_enter Tryz.func65, Tryz.ntmps65
  go_wp2
  go_ret
  exact ⟨reti (by omega), rfl⟩
theorem counter_any (w : World) :
    Calls Tryz.prog 63 #[] w fun e w' => e = .returned (.func (.func 83) #[] #[.pointer (some ⟨w.heap.size, 0, none⟩)]) ∧ w' = w.alloc (.cells #[.int .i64 0] 3) := by
  have hmf : ∀ (fn : Fn) (first cap : Array Value) (w : World), (Instr.makeFunc fn first cap).run Tryz.prog w = .ok (.func fn first cap) w := fun _ _ _ _ => rfl
  go_enter Tryz.func63, Tryz.ntmps63
  go_wp2
  go_ret
  exact ⟨rfl, rfl⟩
theorem next_any (n k : Int) (c : Nat) (w : World) (h0 : 0 ≤ n) (h1 : n ≤ 1000000) (k0 : 0 ≤ k) (k1 : k ≤ 1000000000) (hc : w.cell? ⟨c, 0, none⟩ = some (.int .i64 k)) (hf : w.frozen? ⟨c, 0, none⟩ = false) :
    Calls Tryz.prog 83 #[.int .i64 n, .pointer (some ⟨c, 0, none⟩)] w fun e w' => e = .returned (.int .i64 k) ∧ w' = w.setCell ⟨c, 0, none⟩ (.int .i64 (k + n)) := by
  go_enter Tryz.func83, Tryz.ntmps83
  go_wp2
  go_ret
  exact ⟨rfl, rfl⟩
theorem lay_any (n k : Int) (b c : Nat) (w : World) (h0 : 0 ≤ n) (h1 : n ≤ 1000000) (k0 : 0 ≤ k) (k1 : k ≤ 1000000000) (hb : w.cell? ⟨b, 0, none⟩ = some (.func (.func 83) #[] #[.pointer (some ⟨c, 0, none⟩)])) (hc : w.cell? ⟨c, 0, none⟩ = some (.int .i64 k)) (hf : w.frozen? ⟨c, 0, none⟩ = false) :
    Calls Tryz.prog 64 #[.int .i64 n, .pointer (some ⟨b, 0, none⟩)] w fun e w' => e = .returned (.int .i64 (k * 8)) ∧ w' = w.setCell ⟨c, 0, none⟩ (.int .i64 (k + n)) := by
  go_enter Tryz.func64, Tryz.ntmps64
  go_wp2_with fail
  refine (next_any n k c _ h0 h1 k0 k1 hc hf).mono ?_
  rintro e w' ⟨rfl, rfl⟩
  go_wp2
  go_ret
  exact ⟨rfl, rfl⟩
theorem layp_any (n k : Int) (b c : Nat) (w : World) (h0 : 0 ≤ n) (h1 : n ≤ 1000000) (k0 : 0 ≤ k) (k1 : k ≤ 1000000000) (hb : w.cell? ⟨b, 0, none⟩ = some (.func (.func 83) #[] #[.pointer (some ⟨c, 0, none⟩)])) (hc : w.cell? ⟨c, 0, none⟩ = some (.int .i64 k)) (hf : w.frozen? ⟨c, 0, none⟩ = false) :
    Calls Tryz.prog 66 #[.int .i64 n, .pointer (some ⟨b, 0, none⟩)] w fun e w' => e = .returned (.int .i64 (-1 - k)) ∧ w' = w.setCell ⟨c, 0, none⟩ (.int .i64 (k + n)) := by
  go_enter Tryz.func66, Tryz.ntmps66
  go_wp2_with fail
  refine (next_any n k c _ h0 h1 k0 k1 hc hf).mono ?_
  rintro e w' ⟨rfl, rfl⟩
  go_wp2
  go_ret
  exact ⟨rfl, rfl⟩
end Go.Proofs.YtolengkegjipaaaGreat


/- While areas are laid: what is known of the layout's cells, the counter's number, the config's copy and the counter's function. Conditions: those that each theorem names. -/
namespace Go.Proofs.YtolengkegjipaaaGreat
open Go.ChangeShapes Go.WideShapes Go.ChangeAt Go.RowKit
set_option linter.unusedVariables false

/-- The function that the counter is. -/
def fnV (c : Nat) : Value := .func (.func 83) #[] #[.pointer (some ⟨c, 0, none⟩)]
structure LS (w0 : World) (g c b2 b3 : Nat) (t s l b : Int) (cs : List Value) (n : Int) (w : World) : Prop where
  lay : Blk w g 97 cs
  num : Blk w c 3 [.int .i64 n]
  cfg : Blk w b2 23 [.int .i64 t, .int .i64 s, .int .i64 l, .int .i64 b]
  fn : Blk w b3 52 [fnV c]
  fr : Fr (· = g) w0 w
  gc : g ≠ c
  gb2 : g ≠ b2
  gb3 : g ≠ b3
  cb2 : c ≠ b2
  cb3 : c ≠ b3
  c0 : w0.heap.size ≤ c
  b20 : w0.heap.size ≤ b2
  b30 : w0.heap.size ≤ b3
section
variable {w0 w : World} {g c b2 b3 : Nat} {t s l b n : Int} {cs : List Value}
theorem LS.drew (h : LS w0 g c b2 b3 t s l b cs n w) : LS w0 g c b2 b3 t s l b cs n w.drew := ⟨h.lay, h.num, h.cfg, h.fn, h.fr.drew, h.gc, h.gb2, h.gb3, h.cb2, h.cb3, h.c0, h.b20, h.b30⟩
theorem LS.next (h : LS w0 g c b2 b3 t s l b cs n w) (m : Int) : LS w0 g c b2 b3 t s l b cs m (w.setCell ⟨c, 0, none⟩ (.int .i64 m)) :=
  ⟨h.lay.far (by exact h.gc) _, h.num.set 0 _, h.cfg.far (by exact h.cb2.symm) _, h.fn.far (by exact h.cb3.symm) _, h.fr.setCell (Or.inr h.c0) _, h.gc, h.gb2, h.gb3, h.cb2, h.cb3, h.c0, h.b20, h.b30⟩
theorem LS.put (h : LS w0 g c b2 b3 t s l b cs n w) (i : Nat) (u : Value) : LS w0 g c b2 b3 t s l b (cs.set i u) n (w.setCell ⟨g, i, none⟩ u) :=
  ⟨h.lay.set i u, h.num.far (by exact h.gc.symm) _, h.cfg.far (by exact h.gb2.symm) _, h.fn.far (by exact h.gb3.symm) _, h.fr.setCell (Or.inl rfl) _, h.gc, h.gb2, h.gb3, h.cb2, h.cb3, h.c0, h.b20, h.b30⟩
theorem LS.facts (h : LS w0 g c b2 b3 t s l b cs n w) : w.cell? ⟨c, 0, none⟩ = some (.int .i64 n) ∧ w.frozen? ⟨c, 0, none⟩ = false ∧ w.cell? ⟨b2, 0, none⟩ = some (.int .i64 t) ∧ w.cell? ⟨b2, 1, none⟩ = some (.int .i64 s) ∧ w.cell? ⟨b2, 2, none⟩ = some (.int .i64 l) ∧ w.cell? ⟨b2, 3, none⟩ = some (.int .i64 b) ∧ w.cell? ⟨b3, 0, none⟩ = some (fnV c) ∧ (∀ j, w.frozen? ⟨g, j, none⟩ = false) :=
  ⟨h.num.cell 0, h.num.frozen 0, h.cfg.cell 0, h.cfg.cell 1, h.cfg.cell 2, h.cfg.cell 3, h.fn.cell 0, fun j => h.lay.frozen j⟩
theorem LS.apart (h : LS w0 g c b2 b3 t s l b cs n w) : (¬ g = c) ∧ (¬ g = b2) ∧ (¬ g = b3) ∧ (¬ c = b2) ∧ (¬ c = b3) ∧ (¬ c = g) ∧ (¬ b2 = g) ∧ (¬ b3 = g) ∧ (¬ b2 = c) ∧ (¬ b3 = c) :=
  ⟨h.gc, h.gb2, h.gb3, h.cb2, h.cb3, h.gc.symm, h.gb2.symm, h.gb3.symm, h.cb2.symm, h.cb3.symm⟩
end
theorem three (w : World) (A B C : Obj) : (((w.alloc A).alloc B).alloc C).heap[w.heap.size]? = some A ∧ (((w.alloc A).alloc B).alloc C).heap[w.heap.size + 1]? = some B ∧ (((w.alloc A).alloc B).alloc C).heap[w.heap.size + 1 + 1]? = some C := by
  refine ⟨?_, ?_, ?_⟩
  · rw [Below.heap_alloc _ _ _ (by simp; omega), Below.heap_alloc _ _ _ (by simp), heap_alloc_new]
  · rw [Below.heap_alloc _ _ _ (by simp)]
    simpa using heap_alloc_new (w.alloc A) B
  · simpa using heap_alloc_new ((w.alloc A).alloc B) C
theorem ext_three (w : World) (A B C : Obj) : Ext w (((w.alloc A).alloc B).alloc C) := (ext2 w A B).alloc C
theorem ls_0 {w : World} {g : Nat} {t s l b : Int} {cs : List Value} (h : Blk w g 97 cs) : LS w g (w.heap.size) (w.heap.size + 1) (w.heap.size + 1 + 1) t s l b cs 0 ((((w.alloc (.cells #[.int .i64 0] 3)).alloc (.cells #[.int .i64 t, .int .i64 s, .int .i64 l, .int .i64 b] 23)).alloc (.cells #[.func (.func 83) #[] #[.pointer (some ⟨w.heap.size, 0, none⟩)]] 52)).drew) := by
  have hlt := h.lt
  have h3 := three w (.cells #[.int .i64 0] 3) (.cells #[.int .i64 t, .int .i64 s, .int .i64 l, .int .i64 b] 23) (.cells #[.func (.func 83) #[] #[.pointer (some ⟨w.heap.size, 0, none⟩)]] 52)
  exact ⟨h.ext ((ext_three w _ _ _).drew), h3.1, h3.2.1, h3.2.2, (Fr.of_ext (ext_three w _ _ _)).drew, by omega, by omega, by omega, by omega, by omega, by omega, by omega, by omega⟩
theorem ls_1 {w : World} {g : Nat} {t s l b : Int} {cs : List Value} (h : Blk w g 97 cs) : LS w g (w.heap.size) (w.heap.size + 1 + 1) (w.heap.size + 1) t s l b cs 0 ((((w.alloc (.cells #[.int .i64 0] 3)).alloc (.cells #[.func (.func 83) #[] #[.pointer (some ⟨w.heap.size, 0, none⟩)]] 52)).alloc (.cells #[.int .i64 t, .int .i64 s, .int .i64 l, .int .i64 b] 23)).drew) := by
  have hlt := h.lt
  have h3 := three w (.cells #[.int .i64 0] 3) (.cells #[.func (.func 83) #[] #[.pointer (some ⟨w.heap.size, 0, none⟩)]] 52) (.cells #[.int .i64 t, .int .i64 s, .int .i64 l, .int .i64 b] 23)
  exact ⟨h.ext ((ext_three w _ _ _).drew), h3.1, h3.2.2, h3.2.1, (Fr.of_ext (ext_three w _ _ _)).drew, by omega, by omega, by omega, by omega, by omega, by omega, by omega, by omega⟩
theorem ls_2 {w : World} {g : Nat} {t s l b : Int} {cs : List Value} (h : Blk w g 97 cs) : LS w g (w.heap.size + 1) (w.heap.size) (w.heap.size + 1 + 1) t s l b cs 0 ((((w.alloc (.cells #[.int .i64 t, .int .i64 s, .int .i64 l, .int .i64 b] 23)).alloc (.cells #[.int .i64 0] 3)).alloc (.cells #[.func (.func 83) #[] #[.pointer (some ⟨w.heap.size + 1, 0, none⟩)]] 52)).drew) := by
  have hlt := h.lt
  have h3 := three w (.cells #[.int .i64 t, .int .i64 s, .int .i64 l, .int .i64 b] 23) (.cells #[.int .i64 0] 3) (.cells #[.func (.func 83) #[] #[.pointer (some ⟨w.heap.size + 1, 0, none⟩)]] 52)
  exact ⟨h.ext ((ext_three w _ _ _).drew), h3.2.1, h3.1, h3.2.2, (Fr.of_ext (ext_three w _ _ _)).drew, by omega, by omega, by omega, by omega, by omega, by omega, by omega, by omega⟩
theorem ls_3 {w : World} {g : Nat} {t s l b : Int} {cs : List Value} (h : Blk w g 97 cs) : LS w g (w.heap.size + 1 + 1) (w.heap.size) (w.heap.size + 1) t s l b cs 0 ((((w.alloc (.cells #[.int .i64 t, .int .i64 s, .int .i64 l, .int .i64 b] 23)).alloc (.cells #[.func (.func 83) #[] #[.pointer (some ⟨w.heap.size + 1 + 1, 0, none⟩)]] 52)).alloc (.cells #[.int .i64 0] 3)).drew) := by
  have hlt := h.lt
  have h3 := three w (.cells #[.int .i64 t, .int .i64 s, .int .i64 l, .int .i64 b] 23) (.cells #[.func (.func 83) #[] #[.pointer (some ⟨w.heap.size + 1 + 1, 0, none⟩)]] 52) (.cells #[.int .i64 0] 3)
  exact ⟨h.ext ((ext_three w _ _ _).drew), h3.2.2, h3.1, h3.2.1, (Fr.of_ext (ext_three w _ _ _)).drew, by omega, by omega, by omega, by omega, by omega, by omega, by omega, by omega⟩
theorem ls_4 {w : World} {g : Nat} {t s l b : Int} {cs : List Value} (h : Blk w g 97 cs) : LS w g (w.heap.size + 1) (w.heap.size + 1 + 1) (w.heap.size) t s l b cs 0 ((((w.alloc (.cells #[.func (.func 83) #[] #[.pointer (some ⟨w.heap.size + 1, 0, none⟩)]] 52)).alloc (.cells #[.int .i64 0] 3)).alloc (.cells #[.int .i64 t, .int .i64 s, .int .i64 l, .int .i64 b] 23)).drew) := by
  have hlt := h.lt
  have h3 := three w (.cells #[.func (.func 83) #[] #[.pointer (some ⟨w.heap.size + 1, 0, none⟩)]] 52) (.cells #[.int .i64 0] 3) (.cells #[.int .i64 t, .int .i64 s, .int .i64 l, .int .i64 b] 23)
  exact ⟨h.ext ((ext_three w _ _ _).drew), h3.2.1, h3.2.2, h3.1, (Fr.of_ext (ext_three w _ _ _)).drew, by omega, by omega, by omega, by omega, by omega, by omega, by omega, by omega⟩
theorem ls_5 {w : World} {g : Nat} {t s l b : Int} {cs : List Value} (h : Blk w g 97 cs) : LS w g (w.heap.size + 1 + 1) (w.heap.size + 1) (w.heap.size) t s l b cs 0 ((((w.alloc (.cells #[.func (.func 83) #[] #[.pointer (some ⟨w.heap.size + 1 + 1, 0, none⟩)]] 52)).alloc (.cells #[.int .i64 t, .int .i64 s, .int .i64 l, .int .i64 b] 23)).alloc (.cells #[.int .i64 0] 3)).drew) := by
  have hlt := h.lt
  have h3 := three w (.cells #[.func (.func 83) #[] #[.pointer (some ⟨w.heap.size + 1 + 1, 0, none⟩)]] 52) (.cells #[.int .i64 t, .int .i64 s, .int .i64 l, .int .i64 b] 23) (.cells #[.int .i64 0] 3)
  exact ⟨h.ext ((ext_three w _ _ _).drew), h3.2.2, h3.2.1, h3.1, (Fr.of_ext (ext_three w _ _ _)).drew, by omega, by omega, by omega, by omega, by omega, by omega, by omega, by omega⟩
end Go.Proofs.YtolengkegjipaaaGreat

