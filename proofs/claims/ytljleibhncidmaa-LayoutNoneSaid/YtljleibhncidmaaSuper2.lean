/- The line of a config, as package super and as the document's answer make it. Conditions: those that each theorem names. -/
import Derived.Test.YtljleibhncidmaaSuper1
namespace Go.Proofs.Ytljleibhncidmaa
open Go.ChangeShapes Go.WideShapes Go.ChangeAt Go.RowKit
set_option linter.unusedVariables false

theorem word_info : (Try.prog.info? 24).map (fun i => (i.zero, i.size, i.bytes)) = some (some (.int .u64 0), 1, 8) := by kernel_rfl
/-- The sum of seven words. -/
def sum7 (a b c d e f i : Int) : Int := (SM.sumOfWords [a, b, c, d, e, f, i] : Nat)
theorem sum7_lim (a b c d e f i : Int) : 0 ≤ sum7 a b c d e f i ∧ sum7 a b c d e f i < 4294967296 := by
  have h : SM.sumOfWords [a, b, c, d, e, f, i] < 4294967296 := by
    unfold SM.sumOfWords
    omega
  unfold sum7
  omega
def U64 (x : Int) : Prop := 0 ≤ x ∧ x < 18446744073709551616
theorem lim7 {a b c d e f i : Int} (ha : U64 a) (hb : U64 b) (hc : U64 c) (hd : U64 d) (he : U64 e) (hf : U64 f) (hi : U64 i) : Lim [a, b, c, d, e, f, i] 18446744073709551616 := by
  intro j hj
  have hj' : j < 7 := hj
  match j, hj' with
  | 0, _ => exact ha
  | 1, _ => exact hb
  | 2, _ => exact hc
  | 3, _ => exact hd
  | 4, _ => exact he
  | 5, _ => exact hf
  | 6, _ => exact hi
theorem ints7 (w : World) (g : Nat) (x : Value) (ty : TypeId) (a b c d e f i : Int) (hg : w.heap[g]? = some (.cells #[.int .u64 a, .int .u64 b, .int .u64 c, .int .u64 d, .int .u64 e, .int .u64 f, .int .u64 i, x] ty (0, 0))) :
    Ints w .u64 (some ⟨g, 0, none⟩) [a, b, c, d, e, f, i] := fun _ => by
  have hlt : g < w.heap.size := (Array.getElem?_eq_some_iff.1 hg).1
  refine ⟨_, rfl, hlt, fun j hj => ?_⟩
  have hj' : j < 7 := hj
  rw [at0, cell_of_row _ _ _ _ _ _ hg]
  match j, hj' with
  | 0, _ => rfl
  | 1, _ => rfl
  | 2, _ => rfl
  | 3, _ => rfl
  | 4, _ => rfl
  | 5, _ => rfl
  | 6, _ => rfl
theorem block8 {w : World} {g : Nat} {x0 x1 x2 x3 x4 x5 x6 x7 : Value} {ty : TypeId} (hg : w.heap[g]? = some (.cells #[x0, x1, x2, x3, x4, x5, x6, x7] ty (0, 0))) :
    (w.cell? ⟨g, 0, none⟩ = some x0 ∧ w.cell? ⟨g, 1, none⟩ = some x1 ∧ w.cell? ⟨g, 2, none⟩ = some x2 ∧ w.cell? ⟨g, 3, none⟩ = some x3 ∧ w.cell? ⟨g, 4, none⟩ = some x4 ∧ w.cell? ⟨g, 5, none⟩ = some x5 ∧ w.cell? ⟨g, 6, none⟩ = some x6 ∧ w.cell? ⟨g, 7, none⟩ = some x7) ∧ (∀ j, w.frozen? ⟨g, j, none⟩ = false) := by
  refine ⟨⟨?_, ?_, ?_, ?_, ?_, ?_, ?_, ?_⟩, fun j => frozen_of_row _ _ _ _ _ hg⟩ <;> (rw [cell_of_row _ _ _ _ _ _ hg]; rfl)
theorem words_7 (w : World) (g k : Nat) {a b c d e f i : Int} (h : Lim [a, b, c, d, e, f, i] 18446744073709551616) (hI : Ints w .u64 (some ⟨g, 0, none⟩) [a, b, c, d, e, f, i]) :
    Calls Try.prog 53 #[.slice (some ⟨g, 0, none⟩) 7 k] w fun r w' => r = .returned (.int .u32 (sum7 a b c d e f i)) ∧ w = w' :=
  words_any _ k [a, b, c, d, e, f, i] w (by simp) h hI

set_option maxRecDepth 100000 in
set_option maxHeartbeats 400000 in
theorem summed_any (a b c d e f : Int) (w0 w : World) (hlim : Lim [a, b, c, d, e, f, 0] 18446744073709551616) (hx : Ext w0 w) (g : Nat) (hg : w.heap[g]? = some (.cells #[.int .u64 a, .int .u64 b, .int .u64 c, .int .u64 d, .int .u64 e, .int .u64 f] 24 (0, 0))) :
    Calls Try.prog 29 #[.slice (some ⟨g, 0, none⟩) 6 6] w fun r w' => r = .returned (.agg #[.int .u64 a, .int .u64 b, .int .u64 c, .int .u64 d, .int .u64 e, .int .u64 f, .int .u64 0, .int .u64 (sum7 a b c d e f 0)]) ∧ Ext w0 w' := by
  have hl := sum7_lim a b c d e f 0
  have HG := Lib.hid hg
  clear hg
  go_enter Try.func29, Try.ntmps29
  have hgl : g < w.heap.size := (Array.getElem?_eq_some_iff.1 HG.out).1
  obtain ⟨W1, HW1⟩ : ∃ W1, W1 = (w.alloc (.cells #[.int .u64 0, .int .u64 0, .int .u64 0, .int .u64 0, .int .u64 0, .int .u64 0, .int .u64 0, .int .u64 0] 26)).alloc (.cells #[.int .u64 0, .int .u64 0, .int .u64 0, .int .u64 0, .int .u64 0, .int .u64 0, .int .u64 0, .int .u64 0] 26) := ⟨_, rfl⟩
  have HW := Lib.hid HW1
  clear HW1
  go_wp2_with (with_reducible refine wpList_copy_splice rfl (.tmp 4) (.tmp 5) 32 32 rfl 24 Try.underlying32 (by kernel_rfl) (some ⟨w.heap.size + 1, 0, none⟩) (some ⟨g, 0, none⟩) 7 8 6 6 rfl rfl (w.heap.size + 1) 0 [.int .u64 0, .int .u64 0, .int .u64 0, .int .u64 0, .int .u64 0, .int .u64 0, .int .u64 0, .int .u64 0] 26 ?h1 [.int .u64 a, .int .u64 b, .int .u64 c, .int .u64 d, .int .u64 e, .int .u64 f] rfl ?h2 (by simp) ?h3 (w.heap.size + 1) W1 ?h4 ?h5 ?h6)
  case h1 => exact (by simpa using heap_alloc_new (w.alloc _) _)
  case h2 =>
    intro j v hv
    rw [cell_of_row _ _ _ _ _ _ HG.out]
    simpa using hv
  case h3 =>
    intro v hv
    simp at hv
    rcases hv with rfl | rfl | rfl | rfl | rfl | rfl <;> rfl
  case h4 => rw [HW.out]; exact Below.refl _ _
  case h5 => exact Nat.le_refl _
  intro w2 hg2 hb2
  have hg3 : w2.heap[w.heap.size + 1]? = some (.cells #[.int .u64 a, .int .u64 b, .int .u64 c, .int .u64 d, .int .u64 e, .int .u64 f, .int .u64 0, .int .u64 0] 26 (0, 0)) := hg2.out
  have hr3 : w2.heap[w.heap.size]? = some (.cells #[.int .u64 0, .int .u64 0, .int .u64 0, .int .u64 0, .int .u64 0, .int .u64 0, .int .u64 0, .int .u64 0] 26 (0, 0)) := by
    rw [hb2.block _ (by omega), HW.out, Below.heap_alloc _ _ _ (by simp), heap_alloc_new]
  have hx2 : Ext w0 w2 := by
    refine hx.trans ?_
    have h1 : Ext w W1 := by rw [HW.out]; exact ext2 w _ _
    exact Ext.of (Below.trans h1.below (Below.mono hb2 (by omega)))
  clear hg2 hb2 HW HG
  have HG3 := Lib.hid hg3
  have HR3 := Lib.hid hr3
  clear hg3 hr3
  go_wp2_with fail
  refine (words_7 _ _ _ hlim (ints7 _ _ _ _ _ _ _ _ _ _ _ HG3.out)).mono ?_
  rintro r w' ⟨rfl, rfl⟩
  obtain ⟨⟨c0, c1, c2, c3, c4, c5, c6, c7⟩, cf⟩ := block8 HG3.out
  obtain ⟨⟨r0, r1, r2, r3, r4, r5, r6, r7⟩, rf⟩ := block8 HR3.out
  go_wp2_with fail
  have hle := hx.size
  refine bodyPost_ret (v := .agg #[.int .u64 a, .int .u64 b, .int .u64 c, .int .u64 d, .int .u64 e, .int .u64 f, .int .u64 0, .int .u64 (sum7 a b c d e f 0)]) (by simp [results, Try.results29, go_sem, r0, r1, r2, r3, r4, r5, r6, r7]) rfl ⟨rfl, ?_⟩
  exact ((((((((hx2.setCell (by simp; omega) _).setCell (by simpa using hle) _).setCell (by simpa using hle) _).setCell (by simpa using hle) _).setCell (by simpa using hle) _).setCell (by simpa using hle) _).setCell (by simpa using hle) _).setCell (by simpa using hle) _).setCell (by simpa using hle) _

theorem bcell {W w1 : World} (hb : Below W.heap.size W w1) : (∀ b o, b < W.heap.size → w1.cell? ⟨b, o, none⟩ = W.cell? ⟨b, o, none⟩) ∧ (∀ b o, b < W.heap.size → w1.frozen? ⟨b, o, none⟩ = W.frozen? ⟨b, o, none⟩) :=
  ⟨fun b o h => hb.cell (p := ⟨b, o, none⟩) h, fun b o h => hb.frozen (p := ⟨b, o, none⟩) h⟩
/-- The line of a config that may be. -/
def lineOf (t s l b : Int) : Value := .agg #[.int .u64 7739836655157129782, .int .u64 t, .int .u64 s, .int .u64 l, .int .u64 b, .int .u64 1, .int .u64 0, .int .u64 (sum7 7739836655157129782 t s l b 1 0)]
theorem cfg_lim {t s l b : Int} (h : CfgOk t s l b) : Lim [7739836655157129782, t, s, l, b, 1, 0] 18446744073709551616 := by
  obtain ⟨h1, h2, h3, h4⟩ := h
  exact lim7 ⟨by omega, by omega⟩ ⟨by omega, by omega⟩ ⟨by omega, by omega⟩ ⟨by omega, by omega⟩ ⟨by omega, by omega⟩ ⟨by omega, by omega⟩ ⟨by omega, by omega⟩
theorem cfg_pos {t s l b : Int} (h : CfgOk t s l b) : (0 ≤ t ∧ t < 65537) ∧ (0 ≤ s ∧ s < 65537) ∧ (0 ≤ l ∧ l < 65537) ∧ (0 ≤ b ∧ b < 65537) := by
  obtain ⟨h1, h2, h3, h4⟩ := h
  omega
set_option maxRecDepth 100000 in
set_option maxHeartbeats 400000 in
theorem line_no (t s l b : Int) (w : World) (h : ¬ CfgOk t s l b) :
    Calls Try.prog 10 #[.agg #[.int .i64 t, .int .i64 s, .int .i64 l, .int .i64 b]] w fun e w' => e = .returned (.tuple #[.agg #[.int .u64 0, .int .u64 0, .int .u64 0, .int .u64 0, .int .u64 0, .int .u64 0, .int .u64 0, .int .u64 0], .int .i64 1]) ∧ Ext w w' := by
  go_enter Try.func10, Try.ntmps10
  go_wp2_with fail
  refine (right_no _ _ _ _ _ h).mono ?_
  rintro e w' ⟨rfl, hx⟩
  obtain ⟨hc, hf⟩ := bcell hx.below
  go_wp2_with fail
  refine bodyPost_ret (v := .tuple #[.agg #[.int .u64 0, .int .u64 0, .int .u64 0, .int .u64 0, .int .u64 0, .int .u64 0, .int .u64 0, .int .u64 0], .int .i64 1]) (by simp [results, Try.results10, go_sem, hc]) rfl ⟨rfl, ?_⟩
  have hx' := (ext2 w _ _).trans hx
  exact (((((((hx'.setCell (by simp) _).setCell (by simp) _).setCell (by simp) _).setCell (by simp) _).setCell (by simp) _).setCell (by simp) _).setCell (by simp) _).setCell (by simp) _
set_option maxRecDepth 100000 in
set_option maxHeartbeats 400000 in
theorem line_yes (t s l b : Int) (w : World) (h : CfgOk t s l b) :
    Calls Try.prog 10 #[.agg #[.int .i64 t, .int .i64 s, .int .i64 l, .int .i64 b]] w fun e w' => e = .returned (.tuple #[lineOf t s l b, .int .i64 0]) ∧ Ext w w' := by
  obtain ⟨⟨t0, t1⟩, ⟨s0, s1⟩, ⟨l0, l1⟩, b0, b1⟩ := cfg_pos h
  have hL := Lib.hid (cfg_lim h)
  go_enter Try.func10, Try.ntmps10
  go_wp2_with fail
  refine (right_yes _ _ _ _ _ h).mono ?_
  rintro e w1 ⟨rfl, hx⟩
  obtain ⟨hc, hf⟩ := bcell hx.below
  go_wp2_with fail
  refine (summed_any _ t s l b _ _ _ hL.out ((hx.alloc _)) _ (heap_alloc_new _ _)).mono ?_
  rintro e w2 ⟨rfl, hx2⟩
  clear hc hf
  obtain ⟨hc, hf⟩ := bcell hx2.below
  clear hL
  go_wp2_with fail
  refine bodyPost_ret (v := .tuple #[lineOf t s l b, .int .i64 0]) (by unfold lineOf; simp [results, Try.results10, go_sem, hc]) rfl ⟨rfl, ?_⟩
  have hx' := (ext2 w _ _).trans hx2
  exact (((((((hx'.setCell (by simp) _).setCell (by simp) _).setCell (by simp) _).setCell (by simp) _).setCell (by simp) _).setCell (by simp) _).setCell (by simp) _).setCell (by simp) _

set_option maxHeartbeats 400000 in
theorem cwords_any (t s l b : Int) (w : World) (h : CfgOk t s l b) :
    Calls Try.prog 14 #[.agg #[.int .i64 t, .int .i64 s, .int .i64 l, .int .i64 b]] w fun e w' => ∃ v, e = .returned v ∧ Row w' w.heap.size 24 .u64 v [7739836655157129782, t, s, l, b, 1, 0, sum7 7739836655157129782 t s l b 1 0] ∧ Ext w w' := by
  obtain ⟨⟨t0, t1⟩, ⟨s0, s1⟩, ⟨l0, l1⟩, b0, b1⟩ := cfg_pos h
  have hs7 := sum7_lim 7739836655157129782 t s l b 1 0
  have HL := Lib.hid (cfg_lim h)
  go_enter Try.func14, Try.ntmps14
  go_wp2_with fail
  have hrow : Row ((w.alloc (.cells #[.int .i64 t, .int .i64 s, .int .i64 l, .int .i64 b] 23)).alloc (.cells #[.int .u64 7739836655157129782, .int .u64 t, .int .u64 s, .int .u64 l, .int .u64 b, .int .u64 1, .int .u64 0] 24)) w.heap.size 24 .u64 (.slice (some ⟨w.heap.size + 1, 0, none⟩) 7 7) [7739836655157129782, t, s, l, b, 1, 0] := by
    have h1 := World.ownsRow_lit (e := 24) (size := 1) (base := (w.alloc (.cells #[.int .i64 t, .int .i64 s, .int .i64 l, .int .i64 b] 23)).heap.size) (w.alloc (.cells #[.int .i64 t, .int .i64 s, .int .i64 l, .int .i64 b] 23)) #[.int .u64 7739836655157129782, .int .u64 t, .int .u64 s, .int .u64 l, .int .u64 b, .int .u64 1, .int .u64 0] 7 (Nat.le_refl _) (by decide) rfl
    have h2 : Row _ (w.alloc (.cells #[.int .i64 t, .int .i64 s, .int .i64 l, .int .i64 b] 23)).heap.size 24 .u64 (.slice (some ⟨(w.alloc (.cells #[.int .i64 t, .int .i64 s, .int .i64 l, .int .i64 b] 23)).heap.size, 0, none⟩) 7 7) [7739836655157129782, t, s, l, b, 1, 0] := h1
    have h3 := h2.mono (B' := w.heap.size) (by simp)
    simpa using h3
  obtain ⟨W1, HW⟩ : ∃ W1, Hid (((w.alloc (.cells #[.int .i64 t, .int .i64 s, .int .i64 l, .int .i64 b] 23)).alloc (.cells #[.int .u64 7739836655157129782, .int .u64 t, .int .u64 s, .int .u64 l, .int .u64 b, .int .u64 1, .int .u64 0] 24)) = W1) := ⟨_, Lib.hid rfl⟩
  rw [HW.out] at hrow ⊢
  have hx : Ext w W1 := by rw [← HW.out]; exact ext2 w _ _
  clear HW
  obtain ⟨A2, c2, hv, hI, hA⟩ := hrow.form
  obtain ⟨g, rfl, hg, hlt⟩ := hA (by simp)
  have hI' : Ints W1 .u64 (some ⟨w.heap.size + 1, 0, none⟩) [7739836655157129782, t, s, l, b, 1, 0] := by
    have e : g = w.heap.size + 1 := by have := hv.symm; simp at this; exact this.1
    rw [← e]; exact hI
  clear hv hI hA hg hlt
  refine (rwords_any _ 7 [7739836655157129782, t, s, l, b, 1, 0] _ (by simp) HL.out hI').mono ?_
  rintro e w2 ⟨rfl, hx2⟩
  have hrow2 := hrow.ext hx2
  have hext2 := hx.trans hx2
  clear hrow hx hx2 hI' HL
  have e7 : ((SM.sumOfWords [7739836655157129782, t, s, l, b, 1, 0] : Nat) : Int) = sum7 7739836655157129782 t s l b 1 0 := rfl
  rw [e7]
  clear e7
  generalize hS : sum7 7739836655157129782 t s l b 1 0 = S at *
  have HS := Lib.hid hS
  clear hS
  obtain ⟨S0, S1⟩ := hs7
  go_wp2_with ((at_builtin; refine Hid.out ?_))
  refine Lib.hid ?_
  refine wpList_push rfl _ _ 32 rfl 24 .u64 8 word_info (by omega) Try.underlying32 w w2 _ [7739836655157129782, t, s, l, b, 1, 0] S (by rfl) hrow2 hext2 (by rfl) (by simp) ?_
  intro v' w' hrow' hext'
  go_wp2_with fail
  go_ret
  exact ⟨_, rfl, by rw [HS.out]; exact hrow', hext'⟩
end Go.Proofs.Ytljleibhncidmaa
