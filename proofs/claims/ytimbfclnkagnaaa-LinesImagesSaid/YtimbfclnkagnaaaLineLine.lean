/- line of package lines: the line of 64 bytes, gathered by a loop over an iterator. Conditions: those that each theorem names. -/
import Derived.Test.YtimbfclnkagnaaaLineIter
import Derived.Maps.AppendAt
namespace Go.Proofs.Ytimbfclnkagnaaa
open Go.ChangeShapes Go.WideShapes Go.ChangeAt Go.RowKit Go.Shelf
set_option linter.unusedVariables false
attribute [local go_sem] Oper.semAt_some
/-- A fence that lets all by, under a name. -/
theorem wide_fence : ∃ (F : Fence) (n : Nat), Hid (F = Fence.wide) ∧ (∀ f, F.fn f) ∧ F.round = none ∧ 3 ≤ n := ⟨Fence.wide, 3, Lib.hid rfl, fun _ => trivial, rfl, Nat.le_refl _⟩
theorem mixed : Try.prog.follows .mixedOrders = true := by kernel_rfl
theorem Ext.others {W X : World} (h : Ext W X) : KeepsOthers W X := ⟨h.size, fun k o hk _ => (h.block k (Array.getElem?_eq_some_iff.1 hk).1).trans hk⟩
/-- 'The blocks of S are as they were at first' speaks of cells alone. -/
theorem keepAt_own {β : Type} {S : Nat → Prop} {W0 : World} (hS : ∀ g, S g → ∃ c t f, W0.heap[g]? = some (.cells c t f)) : Own (fun (_ : β) W => KeepAt S W0 W) := by
  intro s W W' row h hg hr g hSg
  obtain ⟨c, t, f, hc⟩ := hS g hSg
  have hW : W.heap[g]? = some (.cells c t f) := (h g hSg).trans hc
  rw [hg.block g (Array.getElem?_eq_some_iff.1 hW).1 (fun e => by obtain ⟨o, ho, hn⟩ := hr g e.symm; rw [hW] at ho; cases ho; cases hn)]
  exact h g hSg
/-- 'out = append(out, ..)', of a variable in a box, whatever was laid between. -/
theorem collect_step {W X w1 W0 : World} {n₀ B : Nat} {t e : TypeId} {size : Nat} {v v' : Value} {k m : Nat} {xs ys : List Value} {S : Nat → Prop}
    (hv : Boxed W B t v) (hte : t ≠ e) (hrow : W.ownsRow n₀ e size v k xs) (hn₀ : n₀ ≤ W.heap.size) (hB : n₀ ≤ B) (hx : Ext W X)
    (hk : KeepAt S W0 W) (hS : ∀ g, S g → g ≠ B ∧ ∃ c t' f, W0.heap[g]? = some (.cells c t' f) ∧ t' ≠ e)
    (hown' : w1.ownsRow n₀ e size v' m ys) (hgrow : X.grownBy w1 v.ownBlock) :
    Boxed w1 B t v ∧ Boxed (w1.setCell ⟨B, 0, none⟩ v') B t v' ∧ (w1.setCell ⟨B, 0, none⟩ v').ownsRow n₀ e size v' m ys ∧ KeepsOthers W (w1.setCell ⟨B, 0, none⟩ v') ∧ Below n₀ W (w1.setCell ⟨B, 0, none⟩ v') ∧ KeepAt S W (w1.setCell ⟨B, 0, none⟩ v') := by
  have hvX : Boxed X B t v := (hx.block B hv.lt).trans hv
  have hv1 : Boxed w1 B t v := hvX.kept hgrow (hv.not_row hte hrow)
  have hrb : ∀ j, v.ownBlock = some j → ∃ cur, W.heap[j]? = some (.cells cur e (0, 0)) ∧ n₀ ≤ j := fun j ej => by
    rcases hrow.2 with ⟨rfl, _⟩ | ⟨g, cap, cur, rfl, hb, hgb, _⟩
    · simp [Value.ownBlock] at ej
    · obtain rfl : g = j := by simpa [Value.ownBlock] using ej
      exact ⟨cur, hgb, hb⟩
  refine ⟨hv1, hv1.set v', hown'.kept (grownBy_setCell' w1 B v') (.inr (hv1.not_row hte hown').symm), ?_, ?_, ?_⟩
  · refine (hx.others.trans (KeepsOthers.of_grownBy hgrow fun j o ej hj => ?_)).trans (KeepsOthers.setCell _ _ _)
    obtain ⟨cur, hc, _⟩ := hrb j ej
    rw [hx.block j (Array.getElem?_eq_some_iff.1 hc).1, hc] at hj
    cases hj; rfl
  · exact ((Below.mono hx.below hn₀).grown hgrow (Nat.le_trans hn₀ hx.size) fun j ej => (hrb j ej).choose_spec.2).setCell (p := ⟨B, 0, none⟩) hB v'
  · intro g hSg
    obtain ⟨hne, c, t', f, hc, ht⟩ := hS g hSg
    have hW : W.heap[g]? = some (.cells c t' f) := (hk g hSg).trans hc
    have hlt := (Array.getElem?_eq_some_iff.1 hW).1
    rw [Below.heap_setCell w1 ⟨B, 0, none⟩ v' g hne, hgrow.block g (Nat.lt_of_lt_of_le hlt hx.size) (fun e' => by
      obtain ⟨cur, hcur, _⟩ := hrb g e'.symm
      rw [hW] at hcur
      injection hcur with hcur
      injection hcur with _ h2
      exact ht h2), hx.block g hlt]
/-- The part of a text, as it reads. -/
theorem Ints.part {w : World} {k : IntKind} {ad : Addr} {zs : List Int} (h : Ints w k (some ad) zs) (s n : Nat) (hs : s + n ≤ zs.length) (hn : 0 < n) : Ints w k (some (ad.add s)) ((zs.drop s).take n) := fun _ => by
  obtain ⟨ad', e, hb, hc⟩ := h (by omega)
  injection e with e
  subst e
  refine ⟨_, rfl, by rw [add_block]; exact hb, fun j hj => ?_⟩
  have hj' : j < n := by rw [List.length_take] at hj; omega
  rw [add_add, hc (s + j) (by omega)]
  simp only [List.getD_eq_getElem?_getD]
  rw [List.getElem?_take, if_pos hj', List.getElem?_drop]
theorem setCell_os (W : World) (p : Addr) (u : Value) : (W.setCell p u).os = W.os := rfl
theorem setCell_tape (W : World) (p : Addr) (u : Value) : (W.setCell p u).tape = W.tape := rfl
theorem setCell_output (W : World) (p : Addr) (u : Value) : (W.setCell p u).output = W.output := rfl
theorem setCell_size (W : World) (p : Addr) (u : Value) : (W.setCell p u).heap.size = W.heap.size := by simp [World.setCell]
/-- Of the blocks just g has turned. -/
structure Turned (g : Nat) (w w' : World) : Prop where
  os : w'.os = w.os
  tape : w'.tape = w.tape
  output : w'.output = w.output
  size : w'.heap.size = w.heap.size
  other : ∀ k, k ≠ g → w'.heap[k]? = w.heap[k]?
theorem Turned.refl (g : Nat) (w : World) : Turned g w w := ⟨rfl, rfl, rfl, rfl, fun _ _ => rfl⟩
theorem Turned.set {g : Nat} {w w' : World} (h : Turned g w w') (j : Nat) (u : Value) : Turned g w (w'.setCell ⟨g, j, none⟩ u) :=
  ⟨h.os, h.tape, h.output, (setCell_size w' _ u).trans h.size, fun k hk => (Below.heap_setCell w' ⟨g, j, none⟩ u k hk).trans (h.other k hk)⟩
theorem arr8 (cs : Array Value) (h : cs.size = 8) (b0 b1 b2 b3 b4 b5 b6 b7 : Value) : (((((((cs.setIfInBounds 0 b0).setIfInBounds 1 b1).setIfInBounds 2 b2).setIfInBounds 3 b3).setIfInBounds 4 b4).setIfInBounds 5 b5).setIfInBounds 6 b6).setIfInBounds 7 b7 = #[b0, b1, b2, b3, b4, b5, b6, b7] := by
  obtain ⟨l⟩ := cs
  match l, h with
  | [_, _, _, _, _, _, _, _], _ => simp only [List.setIfInBounds_toArray, List.set_cons_zero, List.set_cons_succ]
/-- A line stored, cell by cell. -/
theorem set8 (w : World) (g : Nat) (t : TypeId) (cs : Array Value) (hcs : cs.size = 8) (hg : w.heap[g]? = some (.cells cs t (0, 0))) (a0 a1 a2 a3 a4 a5 a6 a7 : Int) :
    ((((((((w.setCell ⟨g, 0, none⟩ (.int .u64 a0)).setCell ⟨g, 1, none⟩ (.int .u64 a1)).setCell ⟨g, 2, none⟩ (.int .u64 a2)).setCell ⟨g, 3, none⟩ (.int .u64 a3)).setCell ⟨g, 4, none⟩ (.int .u64 a4)).setCell ⟨g, 5, none⟩ (.int .u64 a5)).setCell ⟨g, 6, none⟩ (.int .u64 a6)).setCell ⟨g, 7, none⟩ (.int .u64 a7)).heap[g]? = some (.cells #[.int .u64 a0, .int .u64 a1, .int .u64 a2, .int .u64 a3, .int .u64 a4, .int .u64 a5, .int .u64 a6, .int .u64 a7] t (0, 0)) ∧ Turned g w ((((((((w.setCell ⟨g, 0, none⟩ (.int .u64 a0)).setCell ⟨g, 1, none⟩ (.int .u64 a1)).setCell ⟨g, 2, none⟩ (.int .u64 a2)).setCell ⟨g, 3, none⟩ (.int .u64 a3)).setCell ⟨g, 4, none⟩ (.int .u64 a4)).setCell ⟨g, 5, none⟩ (.int .u64 a5)).setCell ⟨g, 6, none⟩ (.int .u64 a6)).setCell ⟨g, 7, none⟩ (.int .u64 a7)) := by
  have st : ∀ (W : World) (cs : Array Value) (j : Nat) (u : Value), W.heap[g]? = some (.cells cs t (0, 0)) → (W.setCell ⟨g, j, none⟩ u).heap[g]? = some (.cells (cs.setIfInBounds j u) t (0, 0)) := fun W cs j u h => by
    simp [World.setCell, Array.getElem?_modify, h]
  have t0 := Turned.refl g w
  have h0 := hg
  have h1 := st w _ 0 (.int .u64 a0) h0
  have t1 := t0.set 0 (.int .u64 a0)
  generalize w.setCell ⟨g, 0, none⟩ (.int .u64 a0) = w1 at *
  have h2 := st w1 _ 1 (.int .u64 a1) h1
  have t2 := t1.set 1 (.int .u64 a1)
  generalize w1.setCell ⟨g, 1, none⟩ (.int .u64 a1) = w2 at *
  have h3 := st w2 _ 2 (.int .u64 a2) h2
  have t3 := t2.set 2 (.int .u64 a2)
  generalize w2.setCell ⟨g, 2, none⟩ (.int .u64 a2) = w3 at *
  have h4 := st w3 _ 3 (.int .u64 a3) h3
  have t4 := t3.set 3 (.int .u64 a3)
  generalize w3.setCell ⟨g, 3, none⟩ (.int .u64 a3) = w4 at *
  have h5 := st w4 _ 4 (.int .u64 a4) h4
  have t5 := t4.set 4 (.int .u64 a4)
  generalize w4.setCell ⟨g, 4, none⟩ (.int .u64 a4) = w5 at *
  have h6 := st w5 _ 5 (.int .u64 a5) h5
  have t6 := t5.set 5 (.int .u64 a5)
  generalize w5.setCell ⟨g, 5, none⟩ (.int .u64 a5) = w6 at *
  have h7 := st w6 _ 6 (.int .u64 a6) h6
  have t7 := t6.set 6 (.int .u64 a6)
  generalize w6.setCell ⟨g, 6, none⟩ (.int .u64 a6) = w7 at *
  have h8 := st w7 _ 7 (.int .u64 a7) h7
  have t8 := t7.set 7 (.int .u64 a7)
  generalize w7.setCell ⟨g, 7, none⟩ (.int .u64 a7) = w8 at *
  rw [arr8 cs hcs] at h8
  exact ⟨h8, t8⟩
theorem map_finRange (b : List Int) (m : Nat) (s : Nat) : (List.finRange m).map (fun x => LM.wordOf ((b.drop (s * x.val)).take s)) = (List.range m).map (fun i => LM.wordOf ((b.drop (s * i)).take s)) := by
  apply List.ext_getElem
  · simp
  · intro i h1 h2
    simp
set_option maxRecDepth 100000 in
set_option maxHeartbeats 2000000 in
theorem line_of (ad : Addr) (cap : Nat) (zs : List Int) (w : World) (hl : zs.length = 64) (hcap : 64 ≤ cap) (hcm : cap ≤ 9223372036854775807) (hz : Lim zs 256) (hA : Ints w .u8 (some ad) zs) :
    Calls Try.prog 43 #[.slice (some ad) 64 cap] w fun e w' => e = .returned (lineV (LM.wordsOf zs)) ∧ Ext w w' := by
  obtain ⟨M, hmk, hrw⟩ : ∃ M : Array Value, (∀ W, (Instr.makeSlice 32 (.int .i64 0) (.int .i64 8)).run Try.prog W = .ok (.slice (some ⟨W.heap.size, 0, none⟩) 0 8) (W.alloc (.cells M 22))) ∧ ∀ W : World, Row (W.alloc (.cells M 22)) W.heap.size 22 .u64 (.slice (some ⟨W.heap.size, 0, none⟩) 0 8) [] :=
    ⟨_, fun W => make_words 0 8 (by omega) (by omega) W, fun W => Row.made W _ 0 8 .u64 (by omega) (by omega)⟩
  obtain ⟨i0, hi, hz0, hz1, hz2⟩ := info_parts word_info
  obtain ⟨F, n, HF, hfn, hro, hn⟩ := wide_fence
  refine (callsIn_wide (n := n)).1 ?_
  rw [← HF.out]
  refine callsIn_of_wp_marks Try.func43 rfl (hfn _) ?_ hro
  simp only [Try.ntmps43, List.size_toArray, List.length_cons, List.length_nil, Nat.reduceAdd, Nat.reduceSub, Array.replicate_succ, Array.replicate_zero, List.push_toArray, List.append_toArray, List.nil_append, List.cons_append]
  have h1 : 1 ≤ n := by omega
  gi_wp2_with (gi_at_call 60; refine (partB8_in F _ (hfn _) hro _ _ _ _).mono ?_; rintro e w' ⟨rfl, rfl⟩)
  have hb0 : Ext w (((((w.alloc (.cells #[.int .u64 0, .int .u64 0, .int .u64 0, .int .u64 0, .int .u64 0, .int .u64 0, .int .u64 0, .int .u64 0] 24)).alloc (.cells M 22)).alloc (.cells #[.slice (some ⟨w.heap.size + 1, 0, none⟩) 0 8] 32)).alloc (.cells #[.slice (some ad) 64 cap] 25)).alloc (.cells #[.int .i64 8] 3)) := (((((Ext.refl w).alloc _).alloc _).alloc _).alloc _).alloc _
  have hN : (((((w.alloc (.cells #[.int .u64 0, .int .u64 0, .int .u64 0, .int .u64 0, .int .u64 0, .int .u64 0, .int .u64 0, .int .u64 0] 24)).alloc (.cells M 22)).alloc (.cells #[.slice (some ⟨w.heap.size + 1, 0, none⟩) 0 8] 32)).alloc (.cells #[.slice (some ad) 64 cap] 25)).alloc (.cells #[.int .i64 8] 3)).heap[w.heap.size]? = some (.cells z8 24 (0, 0)) := by
    rw [Below.heap_alloc _ _ _ (by simp; omega), Below.heap_alloc _ _ _ (by simp; omega), Below.heap_alloc _ _ _ (by simp; omega), Below.heap_alloc _ _ _ (by simp), World.alloc_heap_new]; rfl
  have hsz : (((((w.alloc (.cells #[.int .u64 0, .int .u64 0, .int .u64 0, .int .u64 0, .int .u64 0, .int .u64 0, .int .u64 0, .int .u64 0] 24)).alloc (.cells M 22)).alloc (.cells #[.slice (some ⟨w.heap.size + 1, 0, none⟩) 0 8] 32)).alloc (.cells #[.slice (some ad) 64 cap] 25)).alloc (.cells #[.int .i64 8] 3)).heap.size = w.heap.size + 5 := by simp
  have bR : Boxed (((((w.alloc (.cells #[.int .u64 0, .int .u64 0, .int .u64 0, .int .u64 0, .int .u64 0, .int .u64 0, .int .u64 0, .int .u64 0] 24)).alloc (.cells M 22)).alloc (.cells #[.slice (some ⟨w.heap.size + 1, 0, none⟩) 0 8] 32)).alloc (.cells #[.slice (some ad) 64 cap] 25)).alloc (.cells #[.int .i64 8] 3)) (w.heap.size + 1 + 1) 32 (.slice (some ⟨w.heap.size + 1, 0, none⟩) 0 8) := by
    have h := Boxed.new ((w.alloc (.cells #[.int .u64 0, .int .u64 0, .int .u64 0, .int .u64 0, .int .u64 0, .int .u64 0, .int .u64 0, .int .u64 0] 24)).alloc (.cells M 22)) 32 (.slice (some ⟨w.heap.size + 1, 0, none⟩) 0 8)
    simp only [World.size_alloc] at h
    exact (h.alloc _).alloc _
  have bI : Boxed (((((w.alloc (.cells #[.int .u64 0, .int .u64 0, .int .u64 0, .int .u64 0, .int .u64 0, .int .u64 0, .int .u64 0, .int .u64 0] 24)).alloc (.cells M 22)).alloc (.cells #[.slice (some ⟨w.heap.size + 1, 0, none⟩) 0 8] 32)).alloc (.cells #[.slice (some ad) 64 cap] 25)).alloc (.cells #[.int .i64 8] 3)) (w.heap.size + 1 + 1 + 1) 25 (.slice (some ad) 64 cap) := by
    have h := Boxed.new (((w.alloc (.cells #[.int .u64 0, .int .u64 0, .int .u64 0, .int .u64 0, .int .u64 0, .int .u64 0, .int .u64 0, .int .u64 0] 24)).alloc (.cells M 22)).alloc (.cells #[.slice (some ⟨w.heap.size + 1, 0, none⟩) 0 8] 32)) 25 (.slice (some ad) 64 cap)
    simp only [World.size_alloc] at h
    exact h.alloc _
  have bZ : Boxed (((((w.alloc (.cells #[.int .u64 0, .int .u64 0, .int .u64 0, .int .u64 0, .int .u64 0, .int .u64 0, .int .u64 0, .int .u64 0] 24)).alloc (.cells M 22)).alloc (.cells #[.slice (some ⟨w.heap.size + 1, 0, none⟩) 0 8] 32)).alloc (.cells #[.slice (some ad) 64 cap] 25)).alloc (.cells #[.int .i64 8] 3)) (w.heap.size + 1 + 1 + 1 + 1) 3 (.int .i64 8) := by
    have h := Boxed.new ((((w.alloc (.cells #[.int .u64 0, .int .u64 0, .int .u64 0, .int .u64 0, .int .u64 0, .int .u64 0, .int .u64 0, .int .u64 0] 24)).alloc (.cells M 22)).alloc (.cells #[.slice (some ⟨w.heap.size + 1, 0, none⟩) 0 8] 32)).alloc (.cells #[.slice (some ad) 64 cap] 25)) 3 (.int .i64 8)
    simp only [World.size_alloc] at h
    exact h
  have hR0 : (((((w.alloc (.cells #[.int .u64 0, .int .u64 0, .int .u64 0, .int .u64 0, .int .u64 0, .int .u64 0, .int .u64 0, .int .u64 0] 24)).alloc (.cells M 22)).alloc (.cells #[.slice (some ⟨w.heap.size + 1, 0, none⟩) 0 8] 32)).alloc (.cells #[.slice (some ad) 64 cap] 25)).alloc (.cells #[.int .i64 8] 3)).ownsRow w.heap.size 22 1 (.slice (some ⟨w.heap.size + 1, 0, none⟩) 0 8) 0 [] := by
    have h := (hrw (w.alloc (.cells #[.int .u64 0, .int .u64 0, .int .u64 0, .int .u64 0, .int .u64 0, .int .u64 0, .int .u64 0, .int .u64 0] 24))).mono (B' := w.heap.size) (by simp)
    simp only [World.size_alloc] at h
    exact ((World.ownsRow.alloc h _).alloc _).alloc _
  generalize (((((w.alloc (.cells #[.int .u64 0, .int .u64 0, .int .u64 0, .int .u64 0, .int .u64 0, .int .u64 0, .int .u64 0, .int .u64 0] 24)).alloc (.cells M 22)).alloc (.cells #[.slice (some ⟨w.heap.size + 1, 0, none⟩) 0 8] 32)).alloc (.cells #[.slice (some ad) 64 cap] 25)).alloc (.cells #[.int .i64 8] 3)) = W0 at *
  clear hrw hmk
  have hSc : ∀ g, (g = w.heap.size ∨ g = w.heap.size + 1 + 1 + 1 ∨ g = w.heap.size + 1 + 1 + 1 + 1) → g ≠ w.heap.size + 1 + 1 ∧ ∃ c t' f, W0.heap[g]? = some (.cells c t' f) ∧ t' ≠ 22 := by
    rintro g (rfl | rfl | rfl)
    · exact ⟨by omega, _, _, _, hN, by decide⟩
    · exact ⟨by omega, _, _, _, bI, by decide⟩
    · exact ⟨by omega, _, _, _, bZ, by decide⟩
  have hNl : ∀ g, (g = w.heap.size ∨ g = w.heap.size + 1 + 1 + 1 ∨ g = w.heap.size + 1 + 1 + 1 + 1) → g < W0.heap.size := by rintro g (rfl | rfl | rfl) <;> omega
  refine wpIn_rangeFunc_ownG hro (by omega) (gf := 68) (lb := #[.pointer (some ⟨w.heap.size + 1 + 1 + 1 + 1, 0, none⟩), .pointer (some ⟨w.heap.size + 1 + 1 + 1, 0, none⟩)]) rfl (hfn _) (enters_of Try.func68 (by kernel_rfl) rfl)
    (partB8_stops F (n - 1) (hfn _) hro (by omega) (w.heap.size + 1 + 1 + 1 + 1) (w.heap.size + 1 + 1 + 1) 8 cap (some ad) (fun _ => ⟨ad, rfl⟩) (by omega) hcm (by omega) (fun g => g = w.heap.size ∨ g = w.heap.size + 1 + 1 + 1 ∨ g = w.heap.size + 1 + 1 + 1 + 1) (Or.inr (Or.inr rfl)) (Or.inr (Or.inl rfl)) W0 (by omega) (by omega) bZ.cell bI.cell)
    (fun h k => KeepAt.trans h k) (fun W l _ o' hl _ _ _ => KeepAt.putObj hNl W l o' hl) (Below.refl _ _) (fun _ => rfl)
    (fun (pre : List (Fin 8)) W => (∃ v, Boxed W (w.heap.size + 1 + 1) 32 v ∧ W.ownsRow w.heap.size 22 1 v pre.length ((pre.map (fun x : Fin 8 => LM.wordOf ((zs.drop (8 * x.val)).take 8))).map (Value.int .u64)) ∧ True) ∧ Below w.heap.size w W ∧ KeepAt (fun g => g = w.heap.size ∨ g = w.heap.size + 1 + 1 + 1 ∨ g = w.heap.size + 1 + 1 + 1 + 1) W0 W)
    (fun _ _ _ => False)
    (OwnFrom.and (Own.from (holdsRow_own w.heap.size (w.heap.size + 1 + 1) 32 22 1 (fun pre : List (Fin 8) => pre.length) (fun pre : List (Fin 8) => (pre.map (fun x : Fin 8 => LM.wordOf ((zs.drop (8 * x.val)).take 8))).map (Value.int .u64)) (fun _ _ => True)) _) (OwnFrom.and (ownFrom_below (Nat.le_refl _) (by omega)) (Own.from (keepAt_own (fun g hg => by obtain ⟨_, c, t', f, h, _⟩ := hSc g hg; exact ⟨c, t', f, h⟩)) _)))
    (fun _ _ _ _ _ hs _ _ => hs)
    ⟨⟨_, bR, hR0, trivial⟩, hb0.below, KeepAt.refl _ _⟩
    (fun x => { tmps := #[.slice (some ad) 64 cap, undef, .pointer (some ⟨w.heap.size, 0, none⟩), .pointer (some ⟨w.heap.size + 1 + 1, 0, none⟩), .slice (some (ad.add (8 * x.val))) 8 8, .slice (some ⟨w.heap.size + 1, 0, none⟩) 0 8, .slice (some ad) 64 cap, .func (.func 68) #[] #[.pointer (some ⟨w.heap.size + 1 + 1 + 1 + 1, 0, none⟩), .pointer (some ⟨w.heap.size + 1 + 1 + 1, 0, none⟩)], .slice (some (ad.add (8 * x.val))) 8 8, undef, undef, undef, undef, undef, undef, undef], defers := [] }) ?assign ?body ?done ?stop
  case assign =>
    intro l x W K hK
    gi_wp2
    exact hK
  case body =>
    rintro l pre x W ⟨⟨v, hv, hrow, _⟩, hB, hKp⟩ hlt
    have hc := hv.cell
    have hvl := hv.lt
    have hx8 := x.isLt
    have hd : 1 ≤ n - 1 - 1 := by omega
    have hI : Ints W .u8 (some (ad.add (8 * x.val))) ((zs.drop (8 * x.val)).take 8) := ((hA.ext (Ext.of hB)).part (8 * x.val) 8 (by omega) (by omega))
    have hlen : ((zs.drop (8 * x.val)).take 8).length = 8 := by rw [List.length_take, List.length_drop]; omega
    have HW := Lib.hid (fun W' (h : Ints W' .u8 (some (ad.add (8 * x.val))) ((zs.drop (8 * x.val)).take 8)) => word_of (some (ad.add (8 * x.val))) 8 _ W' hlen (LM.lim_sub hz _ _) h)
    clear hlen
    gi_wp2
    refine wpIn_region_orders mixed [[0, 1, 2, 3, 4, 5], [1, 0, 2, 3, 4, 5], [1, 2, 0, 3, 4, 5], [1, 2, 3, 0, 4, 5]] (by kernel_rfl) ?_
    intro ord hord
    simp only [List.mem_cons, List.not_mem_nil, or_false] at hord
    rcases hord with rfl | rfl | rfl | rfl
    all_goals simp only [List.filterMap_cons, List.filterMap_nil, List.getElem?_toArray, List.getElem?_cons_zero, List.getElem?_cons_succ]
    · refine wpListIn_plain rfl (fun K hK => ?_)
      go_simp
      refine hK _ _ ?_
      clear hK K
      refine wpListIn_plain rfl (fun K hK => ?_)
      go_simp
      refine hK _ _ ?_
      clear hK K
      refine wpListIn_plain rfl (fun K hK => ?_)
      go_simp
      refine (CallsIn.inRound l (by rw [HF.out]; exact callsIn_wide.2 (HW.out _ (by exact hI)))).mono ?_
      rintro e w' ⟨rfl, rfl⟩
      refine hK _ _ ?_
      clear hK K
      refine wpListIn_plain rfl (fun K hK => ?_)
      go_simp
      refine hK _ _ ?_
      clear hK K
      refine wpListIn_append_own _ rfl _ _ 32 rfl w.heap.size 22 i0 (.int .u64 0) 1 8 Try.underlying32 hi hz0 hz1 hz2 rfl (by decide) v pre.length _ (by rfl) (by exact hrow.alloc _) ⟨W.heap.size, 0, none⟩ 1 1 [.int .u64 (LM.wordOf ((zs.drop (8 * x.val)).take 8))] (by rfl) rfl (by exact cell_one_new _ _ _) (by simp [Value.oneCell']) (by unfold maxLen; omega) (by omega) (by have := hB.size; simp; omega) ?_
      intro v' w1 hown' hgrow _
      obtain ⟨g', cap', rfl⟩ := ownsRow_succ hown'
      obtain ⟨hv1, hv2, hr2, hk2, hb2, ha2⟩ := collect_step hv (by decide) hrow hB.size (by omega) (by exact ((Ext.refl W).alloc _).drew) hKp hSc hown' hgrow
      have hc1 := hv1.cell
      have hf1 := hv1.frozen
      refine wpListIn_plain rfl (fun K hK => ?_)
      go_simp
      refine hK _ _ ?_
      clear hK K
      refine wpListIn_nil ?_
      gi_wp2_with fail
      exact ⟨hk2.from _, ha2, ⟨_, hv2, by simpa using hr2, trivial⟩, hB.trans hb2, hKp.trans ha2⟩
    · refine wpListIn_plain rfl (fun K hK => ?_)
      go_simp
      refine hK _ _ ?_
      clear hK K
      refine wpListIn_plain rfl (fun K hK => ?_)
      go_simp
      refine hK _ _ ?_
      clear hK K
      refine wpListIn_plain rfl (fun K hK => ?_)
      go_simp
      refine (CallsIn.inRound l (by rw [HF.out]; exact callsIn_wide.2 (HW.out _ (by exact hI)))).mono ?_
      rintro e w' ⟨rfl, rfl⟩
      refine hK _ _ ?_
      clear hK K
      refine wpListIn_plain rfl (fun K hK => ?_)
      go_simp
      refine hK _ _ ?_
      clear hK K
      refine wpListIn_append_own _ rfl _ _ 32 rfl w.heap.size 22 i0 (.int .u64 0) 1 8 Try.underlying32 hi hz0 hz1 hz2 rfl (by decide) v pre.length _ (by rfl) (by exact hrow.alloc _) ⟨W.heap.size, 0, none⟩ 1 1 [.int .u64 (LM.wordOf ((zs.drop (8 * x.val)).take 8))] (by rfl) rfl (by exact cell_one_new _ _ _) (by simp [Value.oneCell']) (by unfold maxLen; omega) (by omega) (by have := hB.size; simp; omega) ?_
      intro v' w1 hown' hgrow _
      obtain ⟨g', cap', rfl⟩ := ownsRow_succ hown'
      obtain ⟨hv1, hv2, hr2, hk2, hb2, ha2⟩ := collect_step hv (by decide) hrow hB.size (by omega) (by exact ((Ext.refl W).alloc _).drew) hKp hSc hown' hgrow
      have hc1 := hv1.cell
      have hf1 := hv1.frozen
      refine wpListIn_plain rfl (fun K hK => ?_)
      go_simp
      refine hK _ _ ?_
      clear hK K
      refine wpListIn_nil ?_
      gi_wp2_with fail
      exact ⟨hk2.from _, ha2, ⟨_, hv2, by simpa using hr2, trivial⟩, hB.trans hb2, hKp.trans ha2⟩
    · refine wpListIn_plain rfl (fun K hK => ?_)
      go_simp
      refine hK _ _ ?_
      clear hK K
      refine wpListIn_plain rfl (fun K hK => ?_)
      go_simp
      refine (CallsIn.inRound l (by rw [HF.out]; exact callsIn_wide.2 (HW.out _ (by exact hI)))).mono ?_
      rintro e w' ⟨rfl, rfl⟩
      refine hK _ _ ?_
      clear hK K
      refine wpListIn_plain rfl (fun K hK => ?_)
      go_simp
      refine hK _ _ ?_
      clear hK K
      refine wpListIn_plain rfl (fun K hK => ?_)
      go_simp
      refine hK _ _ ?_
      clear hK K
      refine wpListIn_append_own _ rfl _ _ 32 rfl w.heap.size 22 i0 (.int .u64 0) 1 8 Try.underlying32 hi hz0 hz1 hz2 rfl (by decide) v pre.length _ (by rfl) (by exact hrow.alloc _) ⟨W.heap.size, 0, none⟩ 1 1 [.int .u64 (LM.wordOf ((zs.drop (8 * x.val)).take 8))] (by rfl) rfl (by exact cell_one_new _ _ _) (by simp [Value.oneCell']) (by unfold maxLen; omega) (by omega) (by have := hB.size; simp; omega) ?_
      intro v' w1 hown' hgrow _
      obtain ⟨g', cap', rfl⟩ := ownsRow_succ hown'
      obtain ⟨hv1, hv2, hr2, hk2, hb2, ha2⟩ := collect_step hv (by decide) hrow hB.size (by omega) (by exact ((Ext.refl W).alloc _).drew) hKp hSc hown' hgrow
      have hc1 := hv1.cell
      have hf1 := hv1.frozen
      refine wpListIn_plain rfl (fun K hK => ?_)
      go_simp
      refine hK _ _ ?_
      clear hK K
      refine wpListIn_nil ?_
      gi_wp2_with fail
      exact ⟨hk2.from _, ha2, ⟨_, hv2, by simpa using hr2, trivial⟩, hB.trans hb2, hKp.trans ha2⟩
    · refine wpListIn_plain rfl (fun K hK => ?_)
      go_simp
      refine hK _ _ ?_
      clear hK K
      refine wpListIn_plain rfl (fun K hK => ?_)
      go_simp
      refine (CallsIn.inRound l (by rw [HF.out]; exact callsIn_wide.2 (HW.out _ (by exact hI)))).mono ?_
      rintro e w' ⟨rfl, rfl⟩
      refine hK _ _ ?_
      clear hK K
      refine wpListIn_plain rfl (fun K hK => ?_)
      go_simp
      refine hK _ _ ?_
      clear hK K
      refine wpListIn_plain rfl (fun K hK => ?_)
      go_simp
      refine hK _ _ ?_
      clear hK K
      refine wpListIn_append_own _ rfl _ _ 32 rfl w.heap.size 22 i0 (.int .u64 0) 1 8 Try.underlying32 hi hz0 hz1 hz2 rfl (by decide) v pre.length _ (by rfl) (by exact hrow.alloc _) ⟨W.heap.size, 0, none⟩ 1 1 [.int .u64 (LM.wordOf ((zs.drop (8 * x.val)).take 8))] (by rfl) rfl (by exact cell_one_new _ _ _) (by simp [Value.oneCell']) (by unfold maxLen; omega) (by omega) (by have := hB.size; simp; omega) ?_
      intro v' w1 hown' hgrow _
      obtain ⟨g', cap', rfl⟩ := ownsRow_succ hown'
      obtain ⟨hv1, hv2, hr2, hk2, hb2, ha2⟩ := collect_step hv (by decide) hrow hB.size (by omega) (by exact ((Ext.refl W).alloc _).drew) hKp hSc hown' hgrow
      have hc1 := hv1.cell
      have hf1 := hv1.frozen
      refine wpListIn_plain rfl (fun K hK => ?_)
      go_simp
      refine hK _ _ ?_
      clear hK K
      refine wpListIn_nil ?_
      gi_wp2_with fail
      exact ⟨hk2.from _, ha2, ⟨_, hv2, by simpa using hr2, trivial⟩, hB.trans hb2, hKp.trans ha2⟩
  case done =>
    rintro D ys W hD rfl ⟨⟨v, hv, hrow, _⟩, hB, hK⟩ hKd
    have hc := hv.cell
    have hN2 : W.heap[w.heap.size]? = some (.cells z8 24 (0, 0)) := (hK _ (Or.inl rfl)).trans hN
    rw [map_finRange zs 8 8, List.length_finRange] at hrow
    have hrow' : RowN W w.heap.size 22 1 .u64 v 8 (LM.wordsOf zs) := by
      have e : LM.wordsOf zs = (List.range 8).map (fun i => LM.wordOf ((zs.drop (8 * i)).take 8)) := by unfold LM.wordsOf; rw [hl]
      unfold RowN
      rw [e]
      exact hrow
    obtain ⟨a0, a1, a2, a3, a4, a5, a6, a7, hws⟩ := eight (ls := LM.wordsOf zs) (by rw [LM.wordsOf_len, hl])
    rw [hws] at hrow'
    obtain ⟨A, cw, rfl, _, _, hIw, hAw, _⟩ := hrow'.form (by decide)
    obtain ⟨g, rfl, _, _⟩ := hAw (by omega)
    have HWS := Lib.hid hws
    clear hws hrow hAw
    gi_wp2_with fail
    refine CallsIn.mono (by rw [HF.out]; exact callsIn_wide.2 (together_of ⟨g, 0, none⟩ cw a0 a1 a2 a3 a4 a5 a6 a7 _ hIw)) ?_
    rintro e w' ⟨rfl, hx⟩
    have hlt := (Array.getElem?_eq_some_iff.1 hN2).1
    have hN3 : w'.heap[w.heap.size]? = some (.cells z8 24 (0, 0)) := (hx.block _ hlt).trans hN2
    have hKd' : w'.heap[D]? = some (.deferred (some [])) := (hx.block _ (Array.getElem?_eq_some_iff.1 hKd).1).trans hKd
    have hB' : Ext w w' := (Ext.of hB).trans hx
    have q0 : w'.cell? ⟨w.heap.size, 0, none⟩ = some (.int .u64 0) := by simp [World.cell?, hN3, z8]
    have q1 : w'.cell? ⟨w.heap.size, 1, none⟩ = some (.int .u64 0) := by simp [World.cell?, hN3, z8]
    have q2 : w'.cell? ⟨w.heap.size, 2, none⟩ = some (.int .u64 0) := by simp [World.cell?, hN3, z8]
    have q3 : w'.cell? ⟨w.heap.size, 3, none⟩ = some (.int .u64 0) := by simp [World.cell?, hN3, z8]
    have q4 : w'.cell? ⟨w.heap.size, 4, none⟩ = some (.int .u64 0) := by simp [World.cell?, hN3, z8]
    have q5 : w'.cell? ⟨w.heap.size, 5, none⟩ = some (.int .u64 0) := by simp [World.cell?, hN3, z8]
    have q6 : w'.cell? ⟨w.heap.size, 6, none⟩ = some (.int .u64 0) := by simp [World.cell?, hN3, z8]
    have q7 : w'.cell? ⟨w.heap.size, 7, none⟩ = some (.int .u64 0) := by simp [World.cell?, hN3, z8]
    have qf : ∀ j, w'.frozen? ⟨w.heap.size, j, none⟩ = false := fun j => by simp [World.frozen?, hN3]
    have HK3 := Lib.hid hKd'
    have HN3 := Lib.hid hN3
    clear hN3 hKd' hN2 hKd hx hB hIw hv hc
    have HX := Lib.hid (set8 w' w.heap.size 24 z8 rfl HN3.out a0 a1 a2 a3 a4 a5 a6 a7)
    gi_wp2_with fail
    obtain ⟨h8, ⟨hos, htp, hot, hsz8, hoth⟩⟩ := HX.out
    generalize ((((((((w'.setCell ⟨w.heap.size, 0, none⟩ (.int .u64 a0)).setCell ⟨w.heap.size, 1, none⟩ (.int .u64 a1)).setCell ⟨w.heap.size, 2, none⟩ (.int .u64 a2)).setCell ⟨w.heap.size, 3, none⟩ (.int .u64 a3)).setCell ⟨w.heap.size, 4, none⟩ (.int .u64 a4)).setCell ⟨w.heap.size, 5, none⟩ (.int .u64 a5)).setCell ⟨w.heap.size, 6, none⟩ (.int .u64 a6)).setCell ⟨w.heap.size, 7, none⟩ (.int .u64 a7)) = X at *
    have hDne : D ≠ w.heap.size := by omega
    have hKX : X.heap[D]? = some (.deferred (some [])) := (hoth D hDne).trans HK3.out
    have hP8 : (X.putObj D (.deferred none)).heap[w.heap.size]? = some (.cells #[.int .u64 a0, .int .u64 a1, .int .u64 a2, .int .u64 a3, .int .u64 a4, .int .u64 a5, .int .u64 a6, .int .u64 a7] 24 (0, 0)) := (World.putObj_heap_other (fun e => hDne e.symm)).trans h8
    have hExt : Ext w (X.putObj D (.deferred none)) := by
      refine ⟨hos.trans hB'.os, htp.trans hB'.tape, hot.trans hB'.output, ?_, fun k hk => ?_⟩
      · have := hB'.size; simp [hsz8]; omega
      · rw [World.putObj_heap_other (by omega), hoth k (by omega)]
        exact hB'.block k hk
    refine ⟨by simp, .inl ⟨_, _, rfl, run_takeDeferred hKX, ?_⟩⟩
    generalize X.putObj D (.deferred none) = Y at *
    have y0 : Y.cell? ⟨w.heap.size, 0, none⟩ = some (.int .u64 a0) := by simp [World.cell?, hP8]
    have y1 : Y.cell? ⟨w.heap.size, 1, none⟩ = some (.int .u64 a1) := by simp [World.cell?, hP8]
    have y2 : Y.cell? ⟨w.heap.size, 2, none⟩ = some (.int .u64 a2) := by simp [World.cell?, hP8]
    have y3 : Y.cell? ⟨w.heap.size, 3, none⟩ = some (.int .u64 a3) := by simp [World.cell?, hP8]
    have y4 : Y.cell? ⟨w.heap.size, 4, none⟩ = some (.int .u64 a4) := by simp [World.cell?, hP8]
    have y5 : Y.cell? ⟨w.heap.size, 5, none⟩ = some (.int .u64 a5) := by simp [World.cell?, hP8]
    have y6 : Y.cell? ⟨w.heap.size, 6, none⟩ = some (.int .u64 a6) := by simp [World.cell?, hP8]
    have y7 : Y.cell? ⟨w.heap.size, 7, none⟩ = some (.int .u64 a7) := by simp [World.cell?, hP8]
    refine ⟨.agg #[.int .u64 a0, .int .u64 a1, .int .u64 a2, .int .u64 a3, .int .u64 a4, .int .u64 a5, .int .u64 a6, .int .u64 a7], by simp [results, Try.results43, go_sem, y0, y1, y2, y3, y4, y5, y6, y7], ?_, hExt⟩
    rw [HWS.out]
    rfl
  case stop =>
    rintro D c pre W _ _ h _
    exact h.elim
end Go.Proofs.Ytimbfclnkagnaaa
