/- In which list any operation's key lies: its head is one of all heads, just once; these are the set's, and each bucket's: the law answers true for every config and operation, and changes nothing. Conditions: none. -/
import Derived.Test.YtfjfeomkmhbpbaaHash7
import Derived.Test.YtfjfeomkmhbpbaaOpV
import Derived.Test.YtfjfeomkmhbpbaaArgs
import Derived.Test.YtfjfeomkmhbpbaaCfgV
namespace Go.Proofs.Ytfjfeomkmhbpbaa
open Go.ChangeShapes Go.WideShapes Go.ChangeAt Go.RowKit Go.Shelf
set_option linter.unusedVariables false
set_option linter.unusedSimpArgs false

attribute [local go_sem] Oper.semAt_some
/-- The boxes of the law; all others as they were. -/
structure HhI (w1 : World) (z : Nat) (n f k : Int) (W : World) : Prop where
  c8 : Blk W (z + 1) 3 [.int .i64 n]
  c9 : Blk W (z + 1 + 1) 3 [.int .i64 f]
  c10 : Blk W (z + 1 + 1 + 1) 3 [.int .i64 k]
  rest : ∀ g, g < w1.heap.size → g ≠ z + 1 → g ≠ z + 1 + 1 → g ≠ z + 1 + 1 + 1 → W.heap[g]? = w1.heap[g]?
theorem HhI.grown {w1 A B : World} {z : Nat} {n f k : Int} {row : Option Nat} (h : HhI w1 z n f k A) (h3 : z + 1 + 1 + 1 < w1.heap.size) (hg : A.grownBy B row) (hr : ∀ q, row = some q → w1.heap.size ≤ q) : HhI w1 z n f k B := by
  have hne : ∀ b, b < w1.heap.size → some b ≠ row := fun b hb e => by
    have := hr b e.symm
    omega
  exact ⟨(hg.block _ h.c8.lt (hne _ (by omega))).trans h.c8, (hg.block _ h.c9.lt (hne _ (by omega))).trans h.c9, (hg.block _ h.c10.lt (hne _ h3)).trans h.c10, fun g hg1 n1 n2 n3 => (hg.block g (by
    have := h.rest g hg1 n1 n2 n3
    rw [Array.getElem?_eq_getElem hg1] at this
    exact (Array.getElem?_eq_some_iff.1 this).1) (hne g hg1)).trans (h.rest g hg1 n1 n2 n3)⟩
theorem HhI.set8 {w1 W : World} {z : Nat} {n f k : Int} (h : HhI w1 z n f k W) (u : Int) : HhI w1 z u f k (W.setCell ⟨z + 1, 0, none⟩ (.int .i64 u)) :=
  ⟨h.c8.set 0 _, h.c9.far (p := ⟨z + 1, 0, none⟩) (show z + 1 + 1 ≠ z + 1 by omega) _, h.c10.far (p := ⟨z + 1, 0, none⟩) (show z + 1 + 1 + 1 ≠ z + 1 by omega) _, fun g hg g1 g2 g3 => (Below.heap_setCell W ⟨z + 1, 0, none⟩ _ g g1).trans (h.rest g hg g1 g2 g3)⟩
theorem HhI.set9 {w1 W : World} {z : Nat} {n f k : Int} (h : HhI w1 z n f k W) (u : Int) : HhI w1 z n u k (W.setCell ⟨z + 1 + 1, 0, none⟩ (.int .i64 u)) :=
  ⟨h.c8.far (p := ⟨z + 1 + 1, 0, none⟩) (show z + 1 ≠ z + 1 + 1 by omega) _, h.c9.set 0 _, h.c10.far (p := ⟨z + 1 + 1, 0, none⟩) (show z + 1 + 1 + 1 ≠ z + 1 + 1 by omega) _, fun g hg g1 g2 g3 => (Below.heap_setCell W ⟨z + 1 + 1, 0, none⟩ _ g g2).trans (h.rest g hg g1 g2 g3)⟩
theorem HhI.set10 {w1 W : World} {z : Nat} {n f k : Int} (h : HhI w1 z n f k W) (u : Int) : HhI w1 z n f u (W.setCell ⟨z + 1 + 1 + 1, 0, none⟩ (.int .i64 u)) :=
  ⟨h.c8.far (p := ⟨z + 1 + 1 + 1, 0, none⟩) (show z + 1 ≠ z + 1 + 1 + 1 by omega) _, h.c9.far (p := ⟨z + 1 + 1 + 1, 0, none⟩) (show z + 1 + 1 ≠ z + 1 + 1 + 1 by omega) _, h.c10.set 0 _, fun g hg g1 g2 g3 => (Below.heap_setCell W ⟨z + 1 + 1 + 1, 0, none⟩ _ g g3).trans (h.rest g hg g1 g2 g3)⟩
/-- What a round has done. -/
structure HhS (w w1 W0 : World) (z : Nat) (n f k : Int) (W : World) : Prop where
  i : HhI w1 z n f k W
  be : Below w.heap.size w W
  kf : KeepsFrom w1.heap.size W0 W
theorem HhS.set8 {w w1 W0 W : World} {z : Nat} {n f k : Int} (h : HhS w w1 W0 z n f k W) (hz : w.heap.size ≤ z) (u : Int) : HhS w w1 W0 z u f k (W.setCell ⟨z + 1, 0, none⟩ (.int .i64 u)) :=
  ⟨h.i.set8 u, h.be.setCell (p := ⟨z + 1, 0, none⟩) (show w.heap.size ≤ z + 1 by omega) _, h.kf.trans ((KeepsOthers.setCell W _ _).from _)⟩
theorem HhS.set9 {w w1 W0 W : World} {z : Nat} {n f k : Int} (h : HhS w w1 W0 z n f k W) (hz : w.heap.size ≤ z) (u : Int) : HhS w w1 W0 z n u k (W.setCell ⟨z + 1 + 1, 0, none⟩ (.int .i64 u)) :=
  ⟨h.i.set9 u, h.be.setCell (p := ⟨z + 1 + 1, 0, none⟩) (show w.heap.size ≤ z + 1 + 1 by omega) _, h.kf.trans ((KeepsOthers.setCell W _ _).from _)⟩
theorem HhS.set10 {w w1 W0 W : World} {z : Nat} {n f k : Int} (h : HhS w w1 W0 z n f k W) (hz : w.heap.size ≤ z) (u : Int) : HhS w w1 W0 z n f u (W.setCell ⟨z + 1 + 1 + 1, 0, none⟩ (.int .i64 u)) :=
  ⟨h.i.set10 u, h.be.setCell (p := ⟨z + 1 + 1 + 1, 0, none⟩) (show w.heap.size ≤ z + 1 + 1 + 1 by omega) _, h.kf.trans ((KeepsOthers.setCell W _ _).from _)⟩
theorem HhS.ext {w w1 W0 W W' : World} {z : Nat} {n f k : Int} (h : HhS w w1 W0 z n f k W) (x : Ext W W') : HhS w w1 W0 z n f k W' :=
  ⟨⟨h.i.c8.ext x, h.i.c9.ext x, h.i.c10.ext x, fun g hg g1 g2 g3 => by
      have e := h.i.rest g hg g1 g2 g3
      rw [Array.getElem?_eq_getElem hg] at e
      exact (x.block g (Array.getElem?_eq_some_iff.1 e).1).trans (h.i.rest g hg g1 g2 g3)⟩,
    h.be.trans (Below.mono x.below h.be.size), h.kf.trans ⟨x.size, fun j o _ ho _ => (x.block j (Array.getElem?_eq_some_iff.1 ho).1).trans ho⟩⟩
/-- What stands in a box of a bool. -/
def resB (W : World) (p : Nat) : Bool := match W.cell? ⟨p, 0, none⟩ with
  | some (.bool b) => b
  | _ => false
theorem resB_at {W : World} {p : Nat} {v : Bool} (h : W.cell? ⟨p, 0, none⟩ = some (.bool v)) : W.cell? ⟨p, 0, none⟩ = some (.bool (resB W p)) := by
  unfold resB
  rw [h]
theorem undef_no {b : Bool} (h : some undef = some (Value.bool b)) : False := by
  injection h with h
  cases h
theorem eq_fnil (lb : Array Value) (w : World) : (binOp .eql 39 (.func (.func 36) #[] lb) Value.nilFunc).run Try.prog w = .ok (.bool false) w := by kernel_rfl
set_option maxRecDepth 100000 in
set_option maxHeartbeats 8000000 in
theorem hashHeads_yes (w : World) (t s l b : Nat) (hg : GrOk t s l b) (kd : Int) (a : Nat) (ha : a < 4294967296) (v : Int) :
    Calls Try.prog 4 #[.agg #[.int .i64 t, .int .i64 s, .int .i64 l, .int .i64 b], .agg #[.int .i64 kd, .int .u32 (a : Int), .int .u32 v]] w fun e w' => e = .returned (.bool true) ∧ Ext w w' := by
  obtain ⟨hc, h1, h2, h3, h4⟩ := id hg
  have hok := okayF hc
  obtain ⟨⟨q0, q1⟩, ⟨q2, q3⟩, ⟨q4, q5⟩, q6, q7⟩ := id hc
  have b1 : 1 ≤ b := by omega
  have b2 : b ≤ 8 := by omega
  have HY := Lib.hid (fun W => callsIn_wide (n := 5).2 (few9_yes t s l b W hg))
  have HOf := Lib.hid (fun W => callsIn_wide (n := 5).2 (of_yes t s l b W hc))
  have HRh := Lib.hid (fun W => callsIn_wide (n := 5).2 (rhead_ok t s l b hg kd a ha v W))
  have HHd := Lib.hid (fun W gl hl => callsIn_wide (n := 5).2 (head16_ok t s l b gl hg kd a ha v W hl))
  have HAw := Lib.hid (fun W => callsIn_wide (n := 5).2 (awake16_ok W))
  have HCn := Lib.hid (cntW_head t s l b b1 kd (HM.mixN a))
  generalize HM.mixN a = x at *
  have BX : Ext w (((w.alloc (.cells #[.int .i64 t, .int .i64 s, .int .i64 l, .int .i64 b] 29)).alloc (.cells #[.int .i64 kd, .int .u32 (a : Int), .int .u32 v] 31)).alloc (.cells #[.bool false] 4)) := (((Ext.refl w).alloc _).alloc _).alloc _
  have B2 := (((Blk.new w 29 [.int .i64 t, .int .i64 s, .int .i64 l, .int .i64 b]).ext ((Ext.refl _).alloc (.cells #[.int .i64 kd, .int .u32 (a : Int), .int .u32 v] 31)))).ext ((Ext.refl _).alloc (.cells #[.bool false] 4))
  have B3 := (Blk.new (w.alloc (.cells #[.int .i64 t, .int .i64 s, .int .i64 l, .int .i64 b] 29)) 31 [.int .i64 kd, .int .u32 (a : Int), .int .u32 v]).ext ((Ext.refl _).alloc (.cells #[.bool false] 4))
  have B4 := Blk.new ((w.alloc (.cells #[.int .i64 t, .int .i64 s, .int .i64 l, .int .i64 b] 29)).alloc (.cells #[.int .i64 kd, .int .u32 (a : Int), .int .u32 v] 31)) 4 [.bool false]
  simp only [World.size_alloc] at B3 B4
  have hs0 : (((w.alloc (.cells #[.int .i64 t, .int .i64 s, .int .i64 l, .int .i64 b] 29)).alloc (.cells #[.int .i64 kd, .int .u32 (a : Int), .int .u32 v] 31)).alloc (.cells #[.bool false] 4)).heap.size = w.heap.size + 3 := by simp
  have X0 := Lib.hid BX
  have HB2 := Lib.hid B2
  have HB3 := Lib.hid B3
  have HB4 := Lib.hid B4
  clear BX B2 B3 B4 hg hc h1 h2 h3 h4 q0 q1 q2 q3 q4 q5 q6 q7
  refine (callsIn_wide (n := 6)).1 ?_
  refine callsIn_of_wp_marks Try.func4 rfl trivial ?_ rfl
  simp only [Try.ntmps4, List.size_toArray, List.length_cons, List.length_nil, Nat.reduceAdd, Nat.reduceSub, Array.replicate_succ, Array.replicate_zero, List.push_toArray, List.append_toArray, List.nil_append, List.cons_append]
  gi_wp2_with fail
  have hz0 : w.heap.size + 3 = (((w.alloc (.cells #[.int .i64 t, .int .i64 s, .int .i64 l, .int .i64 b] 29)).alloc (.cells #[.int .i64 kd, .int .u32 (a : Int), .int .u32 v] 31)).alloc (.cells #[.bool false] 4)).heap.size := hs0.symm
  generalize ((w.alloc (.cells #[.int .i64 t, .int .i64 s, .int .i64 l, .int .i64 b] 29)).alloc (.cells #[.int .i64 kd, .int .u32 (a : Int), .int .u32 v] 31)).alloc (.cells #[.bool false] 4) = W0 at *
  refine ⟨trivial, (HY.out _).mono ?_⟩
  rintro e w1 ⟨rfl, x1⟩
  have X1 := Lib.hid (X0.out.trans x1)
  have D2 := Lib.hid (HB2.out.ext x1)
  have D3 := Lib.hid (HB3.out.ext x1)
  have D4 := Lib.hid (HB4.out.ext x1)
  have hz1 : W0.heap.size ≤ w1.heap.size := x1.size
  have y0 : w1.cell? ⟨w.heap.size, 0, none⟩ = some (.int .i64 t) := D2.out.cell 0
  have y1 : w1.cell? ⟨w.heap.size, 1, none⟩ = some (.int .i64 s) := D2.out.cell 1
  have y2 : w1.cell? ⟨w.heap.size, 2, none⟩ = some (.int .i64 l) := D2.out.cell 2
  have y3 : w1.cell? ⟨w.heap.size, 3, none⟩ = some (.int .i64 b) := D2.out.cell 3
  clear x1 HB2 HB3 HB4 X0 HY
  gi_wp2_with fail
  refine ⟨trivial, (HOf.out _).mono ?_⟩
  rintro e w2 ⟨gl, rfl, hl, lgl, x2⟩
  have X2 := Lib.hid (X1.out.trans x2)
  have HL2 := Lib.hid hl
  have E2 := Lib.hid (D2.out.ext x2)
  have E3 := Lib.hid (D3.out.ext x2)
  have E4 := Lib.hid (D4.out.ext x2)
  have hz2 : w1.heap.size ≤ w2.heap.size := x2.size
  clear y0 y1 y2 y3 x2 hl D2 D3 D4 X1 HOf
  have x3 : Ext w2 (w2.alloc (.cells #[.pointer (some ⟨gl, 0, none⟩)] 33)) := (Ext.refl w2).alloc _
  have y0 : (w2.alloc (.cells #[.pointer (some ⟨gl, 0, none⟩)] 33)).cell? ⟨w.heap.size, 0, none⟩ = some (.int .i64 t) := (E2.out.ext x3).cell 0
  have y1 : (w2.alloc (.cells #[.pointer (some ⟨gl, 0, none⟩)] 33)).cell? ⟨w.heap.size, 1, none⟩ = some (.int .i64 s) := (E2.out.ext x3).cell 1
  have y2 : (w2.alloc (.cells #[.pointer (some ⟨gl, 0, none⟩)] 33)).cell? ⟨w.heap.size, 2, none⟩ = some (.int .i64 l) := (E2.out.ext x3).cell 2
  have y3 : (w2.alloc (.cells #[.pointer (some ⟨gl, 0, none⟩)] 33)).cell? ⟨w.heap.size, 3, none⟩ = some (.int .i64 b) := (E2.out.ext x3).cell 3
  have o0 : (w2.alloc (.cells #[.pointer (some ⟨gl, 0, none⟩)] 33)).cell? ⟨w.heap.size + 1, 0, none⟩ = some (.int .i64 kd) := (E3.out.ext x3).cell 0
  have o1 : (w2.alloc (.cells #[.pointer (some ⟨gl, 0, none⟩)] 33)).cell? ⟨w.heap.size + 1, 1, none⟩ = some (.int .u32 (a : Int)) := (E3.out.ext x3).cell 1
  have o2 : (w2.alloc (.cells #[.pointer (some ⟨gl, 0, none⟩)] 33)).cell? ⟨w.heap.size + 1, 2, none⟩ = some (.int .u32 v) := (E3.out.ext x3).cell 2
  have F5 := Lib.hid (Blk.new w2 33 [.pointer (some ⟨gl, 0, none⟩)])
  have F2 := Lib.hid (E2.out.ext x3)
  have F3 := Lib.hid (E3.out.ext x3)
  have F4 := Lib.hid (E4.out.ext x3)
  have FL := Lib.hid (HL2.out.ext x3)
  have X3 := Lib.hid (X2.out.trans x3)
  clear x3 E2 E3 E4 HL2 X2
  gi_wp2_with fail
  generalize w2.alloc (.cells #[.pointer (some ⟨gl, 0, none⟩)] 33) = w3 at *
  refine ⟨trivial, (HRh.out _).mono ?_⟩
  rintro e w4 ⟨rfl, x4⟩
  clear y0 y1 y2 y3 o0 o1 o2 HRh
  have hgl3 : gl < w3.heap.size := FL.out.lt
  generalize hdN (layF t s l b) b kd x = want at *
  have xA : Ext w4 ((((w4.alloc (.cells #[.int .i64 want] 3)).alloc (.cells #[.int .i64 0] 3)).alloc (.cells #[.int .i64 0] 3)).alloc (.cells #[.int .i64 0] 3)) := ((((Ext.refl w4).alloc _).alloc _).alloc _).alloc _
  have hl5 : ((((w4.alloc (.cells #[.int .i64 want] 3)).alloc (.cells #[.int .i64 0] 3)).alloc (.cells #[.int .i64 0] 3)).alloc (.cells #[.int .i64 0] 3)).cell? ⟨w2.heap.size, 0, none⟩ = some (.pointer (some ⟨gl, 0, none⟩)) := ((F5.out.ext x4).ext xA).cell 0
  have e7 := (((Blk.new w4 3 [.int .i64 want]).ext ((Ext.refl _).alloc (.cells #[.int .i64 0] 3))).ext ((Ext.refl _).alloc (.cells #[.int .i64 0] 3))).ext ((Ext.refl _).alloc (.cells #[.int .i64 0] 3))
  have e8 := ((Blk.new (w4.alloc (.cells #[.int .i64 want] 3)) 3 [.int .i64 0]).ext ((Ext.refl _).alloc (.cells #[.int .i64 0] 3))).ext ((Ext.refl _).alloc (.cells #[.int .i64 0] 3))
  have e9 := (Blk.new ((w4.alloc (.cells #[.int .i64 want] 3)).alloc (.cells #[.int .i64 0] 3)) 3 [.int .i64 0]).ext ((Ext.refl _).alloc (.cells #[.int .i64 0] 3))
  have e10 := Blk.new (((w4.alloc (.cells #[.int .i64 want] 3)).alloc (.cells #[.int .i64 0] 3)).alloc (.cells #[.int .i64 0] 3)) 3 [.int .i64 0]
  have hsA : ((((w4.alloc (.cells #[.int .i64 want] 3)).alloc (.cells #[.int .i64 0] 3)).alloc (.cells #[.int .i64 0] 3)).alloc (.cells #[.int .i64 0] 3)).heap.size = w4.heap.size + 1 + 1 + 1 + 1 := by simp
  simp only [World.size_alloc] at e8 e9 e10
  gi_wp2_with fail
  have hz4 : w3.heap.size ≤ w4.heap.size := x4.size
  have hz5 : w2.heap.size < w3.heap.size := F5.out.lt
  generalize (((w4.alloc (.cells #[.int .i64 want] 3)).alloc (.cells #[.int .i64 0] 3)).alloc (.cells #[.int .i64 0] 3)).alloc (.cells #[.int .i64 0] 3) = wA at *
  refine ⟨trivial, (heads_in _ gl _).mono ?_⟩
  rintro e w5 ⟨rfl, hw5⟩
  have xH : Ext wA w5 := by rw [hw5]; exact (Ext.refl wA).alloc _
  have bH : Blk w5 (w4.heap.size + 1 + 1 + 1 + 1) 33 [.pointer (some ⟨gl, 0, none⟩)] := by
    rw [hw5, ← hsA]
    exact Blk.new wA _ _
  have hs5 : w5.heap.size = w4.heap.size + 1 + 1 + 1 + 1 + 1 := by rw [hw5, World.size_alloc, hsA]
  rw [hsA]
  clear hw5 hl5
  have x45 : Ext w3 w5 := (x4.trans xA).trans xH
  have G2 := Lib.hid (F2.out.ext x45)
  have G3 := Lib.hid (F3.out.ext x45)
  have G4 := Lib.hid (F4.out.ext x45)
  have G5 := Lib.hid (F5.out.ext x45)
  have GL := Lib.hid (FL.out.ext x45)
  have G7 := Lib.hid (e7.ext xH)
  have i1 : HhI w5 w4.heap.size 0 0 0 w5 := ⟨e8.ext xH, e9.ext xH, e10.ext xH, fun _ _ _ _ _ => rfl⟩
  have X5 := Lib.hid (X3.out.trans x45)
  have hglt := GL.out.lt
  clear F2 F3 F4 F5 FL X3 e7 e8 e9 e10 xA xH x45 x4
  have hbe := fun W => eq_fnil #[.pointer (some ⟨w4.heap.size + 1 + 1 + 1 + 1, 0, none⟩)] W
  gi_wp2_with fail
  have hSlt : ∀ g, (g = w4.heap.size + 1 + 1 + 1 + 1 ∨ g = gl) → g < w5.heap.size := fun g hg => by rcases hg with rfl | rfl <;> omega
  have hz7 : w.heap.size + 3 ≤ w4.heap.size := by omega
  have be1 : Below w.heap.size w w5 := X5.out.below
  have ownBe : OwnFrom w5.heap.size (fun (_ : List (Fin (b + 1))) W => Below w.heap.size w W) := ownFrom_below (Nat.le_refl _) (by omega)
  have hgw : gl ≠ w4.heap.size + 1 ∧ gl ≠ w4.heap.size + 1 + 1 ∧ gl ≠ w4.heap.size + 1 + 1 + 1 := by omega
  have hz8 : w.heap.size ≤ w4.heap.size := by omega
  have HRd : Hid (∀ n f k W', HhI w5 w4.heap.size n f k W' → W'.cell? ⟨w4.heap.size, 0, none⟩ = some (.int .i64 want) ∧ W'.cell? ⟨w2.heap.size, 0, none⟩ = some (.pointer (some ⟨gl, 0, none⟩)) ∧ W'.cell? ⟨w.heap.size + 1 + 1, 0, none⟩ = some (.bool false) ∧ W'.frozen? ⟨w.heap.size + 1 + 1, 0, none⟩ = false ∧ Blk W' gl 71 (cellsF (layF t s l b))) := Lib.hid (fun n f k W' h => by
    have k7 : Blk W' w4.heap.size 3 [.int .i64 want] := (h.rest _ (by omega) (by omega) (by omega) (by omega)).trans G7.out
    have k5 : Blk W' w2.heap.size 33 [.pointer (some ⟨gl, 0, none⟩)] := (h.rest _ (by omega) (by omega) (by omega) (by omega)).trans G5.out
    have k4 : Blk W' (w.heap.size + 1 + 1) 4 [.bool false] := (h.rest _ (by omega) (by omega) (by omega) (by omega)).trans G4.out
    exact ⟨k7.cell 0, k5.cell 0, k4.cell 0, k4.frozen 0, (h.rest gl (by omega) (by omega) (by omega) (by omega)).trans GL.out⟩)
  refine wpIn_rangeFunc_ownG rfl (by decide) (gf := 36) (lb := #[.pointer (some ⟨w4.heap.size + 1 + 1 + 1 + 1, 0, none⟩)]) rfl trivial (enters_of Try.func36 (by kernel_rfl) rfl)
    (heads_stops (6 - 1) (by decide) (w4.heap.size + 1 + 1 + 1 + 1) gl b (by omega) w5 (layF t s l b) hok rfl (fun g => g = w4.heap.size + 1 + 1 + 1 + 1 ∨ g = gl) (Or.inl rfl) (Or.inr rfl) hSlt bH GL.out)
    (fun h k => KeepH.trans h k) (fun W l _ o' hl _ _ _ => KeepH.putObj (B := w5.heap.size) hSlt W l o' hl) (Below.refl _ _) (fun _ => rfl)
    (fun (pre : List (Fin (b + 1))) W => HhI w5 w4.heap.size (pre.length : Int) (cntW (layF t s l b) want pre : Int) (cntB true pre : Int) W ∧ Below w.heap.size w W)
    (fun c (pre : List (Fin (b + 1))) W => ∃ (p : List (Fin (b + 1))) (x : Fin (b + 1)), pre = p ++ [x] ∧ x.val ≠ p.length)
    (OwnFrom.and (fun pre A B row h hg hr => h.grown (by omega) hg (fun q e => (hr q e).1)) ownBe)
    (fun c pre A B row h hg hr => h)
    ⟨by simpa [cntW_nil, cntB_nil] using i1, be1⟩
    (fun x => { tmps := #[.agg #[.int .i64 t, .int .i64 s, .int .i64 l, .int .i64 b], .agg #[.int .i64 kd, .int .u32 (a : Int), .int .u32 v], .pointer (some ⟨w.heap.size, 0, none⟩), .pointer (some ⟨w.heap.size + 1, 0, none⟩), .pointer (some ⟨w.heap.size + 1 + 1, 0, none⟩), .pointer (some ⟨w2.heap.size, 0, none⟩), .int .i64 0, .pointer (some ⟨w4.heap.size, 0, none⟩), .pointer (some ⟨w4.heap.size + 1, 0, none⟩), .pointer (some ⟨w4.heap.size + 1 + 1, 0, none⟩), .pointer (some ⟨w4.heap.size + 1 + 1 + 1, 0, none⟩), .func (.func 36) #[] #[.pointer (some ⟨w4.heap.size + 1 + 1 + 1 + 1, 0, none⟩)], .int .i64 (headN (layF t s l b) x.val), .bool (headB x.val), undef, .agg #[.int .i64 t, .int .i64 s, .int .i64 l, .int .i64 b], .bool true, .bool false, undef, .tuple #[.pointer (some ⟨gl, 0, none⟩), .int .i64 0], .agg #[.int .i64 t, .int .i64 s, .int .i64 l, .int .i64 b], .tuple #[.pointer (some ⟨gl, 0, none⟩), .int .i64 0], .pointer (some ⟨gl, 0, none⟩), .int .i64 0, .agg #[.int .i64 t, .int .i64 s, .int .i64 l, .int .i64 b], .agg #[.int .i64 kd, .int .u32 (a : Int), .int .u32 v], .int .i64 want, .pointer (some ⟨gl, 0, none⟩), .func (.func 36) #[] #[.pointer (some ⟨w4.heap.size + 1 + 1 + 1 + 1, 0, none⟩)], .func (.func 36) #[] #[.pointer (some ⟨w4.heap.size + 1 + 1 + 1 + 1, 0, none⟩)], .bool false, .func (.func 36) #[] #[.pointer (some ⟨w4.heap.size + 1 + 1 + 1 + 1, 0, none⟩)], .int .i64 (headN (layF t s l b) x.val), .bool (headB x.val), undef, undef, undef, undef, undef, undef, undef, undef, undef, undef, undef, undef, undef, undef, undef, undef, undef, undef, undef, undef, undef, undef, undef, undef, undef, undef, undef, undef, undef, undef, undef, undef, undef, undef, undef, undef, undef, undef, undef, undef, undef, undef, undef, undef, undef, undef, undef, undef, undef, undef, undef, undef, undef, undef, undef, undef, undef, undef, undef, undef, undef, undef, undef, undef, undef, undef, undef, undef, undef, undef], defers := [] }) ?assign ?body ?done ?stop
  case assign =>
    intro l x W K hK
    gi_wp2
    exact hK
  case body =>
    rintro lo pre x W ⟨hi, hbe⟩ hlt
    have hxm := x.isLt
    have S0 : Hid (HhS w w5 W w4.heap.size (pre.length : Int) (cntW (layF t s l b) want pre : Int) (cntB true pre : Int) W) := Lib.hid ⟨hi, hbe, KeepsFrom.refl _ _⟩
    have hat := headN_at t s l b x.val (by omega)
    have n1 := cntW_snoc (layF t s l b) want pre x
    have n2 := cntB_snoc true pre x
    have r1 := cntW_le (layF t s l b) want pre
    have r2 : cntB true pre ≤ pre.length := List.countP_le_length
    have hlen : (pre ++ [x]).length = pre.length + 1 := by simp
    have hfar := far8 t s l b
    have hbt : x.val ≠ 0 → (headN (layF t s l b) x.val = bktN (layF t s l b) ((pre.length : Int) - 1) ↔ x.val = pre.length) := by
      intro h
      rw [hat, if_neg h]
      by_cases hp : pre.length = 0
      · rw [hp, show (((0 : Nat) : Int) - 1) = -1 from rfl, bkt_no]
        omega
      · rw [bkt_at t s l b _ (by omega) (by omega)]
        omega
    have HBk : Hid (∀ W', Blk W' gl 71 (cellsF (layF t s l b)) → CallsIn (Fence.wide.inRound lo) 3 Try.prog 16 #[.pointer (some ⟨gl, 0, none⟩), .int .i64 ((pre.length : Int) - 1)] W' fun e w' => e = .returned (.int .i64 (bktN (layF t s l b) ((pre.length : Int) - 1))) ∧ Ext W' w') := Lib.hid (fun W' h => CallsIn.inRound lo (callsIn_wide.2 (bucket_ok hok gl _ W' h)))
    have EQ8 : Hid (((pre ++ [x]).length : Int) = (pre.length : Int) + 1) := Lib.hid (by omega)
    have EQ9 : Hid ((cntW (layF t s l b) want (pre ++ [x]) : Int) = (cntW (layF t s l b) want pre : Int) + (if headN (layF t s l b) x.val = want then 1 else 0)) := Lib.hid (by rw [n1]; split <;> omega)
    have EQ10 : Hid ((cntB true (pre ++ [x]) : Int) = (cntB true pre : Int) + (if headB x.val = true then 1 else 0)) := Lib.hid (by rw [n2]; split <;> omega)
    have HBt := Lib.hid hbt
    have hn0 : 0 ≤ (pre.length : Int) ∧ (pre.length : Int) ≤ 8 := by omega
    have hn0' : pre.length = 0 ↔ (pre.length : Int) = 0 := by omega
    have HNx : Hid (x.val = pre.length ↔ (x.val : Int) = (pre.length : Int)) := Lib.hid (by omega)
    have hf0 : 0 ≤ (cntW (layF t s l b) want pre : Int) ∧ (cntW (layF t s l b) want pre : Int) ≤ 8 := by omega
    have hk0 : 0 ≤ (cntB true pre : Int) ∧ (cntB true pre : Int) ≤ 8 := by omega
    clear hi hbe hat n1 n2 r1 r2 hlen hfar hbt
    have HNe : Hid (x.val ≠ pre.length → ∃ (p : List (Fin (b + 1))) (y : Fin (b + 1)), pre ++ [x] = p ++ [y] ∧ y.val ≠ p.length) := Lib.hid (fun h => ⟨pre, x, rfl, h⟩)
    generalize hgn : (pre.length : Int) = n at *
    generalize (cntW (layF t s l b) want pre : Int) = f at *
    generalize (cntB true pre : Int) = k at *
    have wn : IntKind.i64.wrap (n + 1) = n + 1 := i64wH _ (by omega) (by omega)
    have wm : IntKind.i64.wrap (n - 1) = n - 1 := i64wH _ (by omega) (by omega)
    have wf : IntKind.i64.wrap (f + 1) = f + 1 := i64wH _ (by omega) (by omega)
    have wk : IntKind.i64.wrap (k + 1) = k + 1 := i64wH _ (by omega) (by omega)
    obtain ⟨at', hat'⟩ : ∃ at', headN (layF t s l b) x.val = at' := ⟨_, rfl⟩
    obtain ⟨bt, hbt'⟩ : ∃ bt, bktN (layF t s l b) (n - 1) = bt := ⟨_, rfl⟩
    rw [hat'] at EQ9 HBt ⊢
    rw [hbt'] at HBk HBt
    clear hat' hbt'
    obtain ⟨c7, c5, c4, z4, l0⟩ := HRd.out _ _ _ _ S0.out.i
    have c8 : W.cell? ⟨w4.heap.size + 1, 0, none⟩ = some (.int .i64 n) := S0.out.i.c8.cell 0
    have c9 : W.cell? ⟨w4.heap.size + 1 + 1, 0, none⟩ = some (.int .i64 f) := S0.out.i.c9.cell 0
    have c10 : W.cell? ⟨w4.heap.size + 1 + 1 + 1, 0, none⟩ = some (.int .i64 k) := S0.out.i.c10.cell 0
    have z8 : W.frozen? ⟨w4.heap.size + 1, 0, none⟩ = false := S0.out.i.c8.frozen 0
    have z9 : W.frozen? ⟨w4.heap.size + 1 + 1, 0, none⟩ = false := S0.out.i.c9.frozen 0
    have z10 : W.frozen? ⟨w4.heap.size + 1 + 1 + 1, 0, none⟩ = false := S0.out.i.c10.frozen 0
    by_cases hw : at' = want
    · have d9 : (at' == want) = true := by rw [hw]; simp
      rw [if_pos hw] at EQ9
      have S1 := Lib.hid (S0.out.set9 (by omega) (f + 1))
      obtain ⟨c7a, c5a, c4a, z4a, la⟩ := HRd.out _ _ _ _ S1.out.i
      have c8a := S1.out.i.c8.cell 0
      have z8a := S1.out.i.c8.frozen 0
      have c9a := S1.out.i.c9.cell 0
      have z9a := S1.out.i.c9.frozen 0
      have c10a := S1.out.i.c10.cell 0
      have z10a := S1.out.i.c10.frozen 0
      by_cases hx0 : x.val = 0
      · have hB : headB x.val = false := by unfold headB; rw [hx0]; rfl
        rw [hB] at EQ10 ⊢
        simp only [Bool.false_eq_true, if_false, Int.add_zero] at EQ10 EQ9
        by_cases hp0 : n = 0
        · have d8 : (n == 0) = true := by rw [hp0]; rfl
          have d8' : decide (n = 0) = true := by rw [hp0]; rfl
          gi_wp2_with (refine ⟨trivial, ?_⟩; go_at_K)
          have S9 := Lib.hid (S1.out.set8 (by omega) 1)
          refine ⟨S9.out.kf, fun g hg => (S9.out.i.rest g (hSlt g hg) (by rcases hg with rfl | rfl <;> omega) (by rcases hg with rfl | rfl <;> omega) (by rcases hg with rfl | rfl <;> omega)).trans (S0.out.i.rest g (hSlt g hg) (by rcases hg with rfl | rfl <;> omega) (by rcases hg with rfl | rfl <;> omega) (by rcases hg with rfl | rfl <;> omega)).symm, ?_, S9.out.be⟩
          rw [EQ8.out, EQ9.out, EQ10.out, show n + 1 = 1 by omega]
          exact S9.out.i
        · have d8 : (n == 0) = false := by rw [beq_eq_false_iff_ne]; exact hp0
          have d8' : decide (n = 0) = false := by simp [hp0]
          gi_wp2_with (first | exact (undef_no (by assumption)).elim | (refine ⟨trivial, ?_⟩; go_at_K))
          all_goals exact ⟨S1.out.kf.trans ((KeepsOthers.setCell _ _ _).from _), HNe.out (by have := HNx.out; omega)⟩
      · have hB : headB x.val = true := by unfold headB; simp [hx0]
        rw [hB] at EQ10 ⊢
        simp only [if_true, Int.add_zero] at EQ10 EQ9
        have hbt2 := HBt.out hx0
        have S2 := Lib.hid (S1.out.set10 (by omega) (k + 1))
        obtain ⟨c7b, c5b, c4b, z4b, lb⟩ := HRd.out _ _ _ _ S2.out.i
        have c8b := S2.out.i.c8.cell 0
        have z8b := S2.out.i.c8.frozen 0
        have c9b := S2.out.i.c9.cell 0
        have z9b := S2.out.i.c9.frozen 0
        have c10b := S2.out.i.c10.cell 0
        have z10b := S2.out.i.c10.frozen 0
        by_cases hg0 : x.val = pre.length
        · have da : (at' == bt) = true := by rw [hbt2.2 hg0]; simp
          gi_wp2_with (refine ⟨trivial, ?_⟩; gi_at_call 16; refine (HBk.out _ lb).mono ?_; rintro e w6 ⟨rfl, x6⟩; have S6 := Lib.hid (S2.out.ext x6); have c8w := S6.out.i.c8.cell 0; have z8w := S6.out.i.c8.frozen 0; obtain ⟨_, _, c4w, z4w, _⟩ := HRd.out _ _ _ _ S6.out.i)
          have S9 := Lib.hid (S6.out.set8 (by omega) (n + 1))
          refine ⟨S9.out.kf, fun g hg => (S9.out.i.rest g (hSlt g hg) (by rcases hg with rfl | rfl <;> omega) (by rcases hg with rfl | rfl <;> omega) (by rcases hg with rfl | rfl <;> omega)).trans (S0.out.i.rest g (hSlt g hg) (by rcases hg with rfl | rfl <;> omega) (by rcases hg with rfl | rfl <;> omega) (by rcases hg with rfl | rfl <;> omega)).symm, ?_, S9.out.be⟩
          rw [EQ8.out, EQ9.out, EQ10.out]
          exact S9.out.i
        · have da : (at' == bt) = false := by rw [beq_eq_false_iff_ne]; exact fun h => hg0 (hbt2.1 h)
          gi_wp2_with (first | exact (undef_no (by assumption)).elim | (refine ⟨trivial, ?_⟩; gi_at_call 16; refine (HBk.out _ lb).mono ?_; rintro e w6 ⟨rfl, x6⟩; have S6 := Lib.hid (S2.out.ext x6); have c8w := S6.out.i.c8.cell 0; have z8w := S6.out.i.c8.frozen 0; obtain ⟨_, _, c4w, z4w, _⟩ := HRd.out _ _ _ _ S6.out.i))
          exact ⟨S6.out.kf.trans ((KeepsOthers.setCell _ _ _).from _), HNe.out hg0⟩
    · have d9 : (at' == want) = false := by rw [beq_eq_false_iff_ne]; exact hw
      rw [if_neg hw] at EQ9
      by_cases hx0 : x.val = 0
      · have hB : headB x.val = false := by unfold headB; rw [hx0]; rfl
        rw [hB] at EQ10 ⊢
        simp only [Bool.false_eq_true, if_false, Int.add_zero] at EQ10 EQ9
        by_cases hp0 : n = 0
        · have d8 : (n == 0) = true := by rw [hp0]; rfl
          have d8' : decide (n = 0) = true := by rw [hp0]; rfl
          gi_wp2_with (refine ⟨trivial, ?_⟩; go_at_K)
          have S9 := Lib.hid (S0.out.set8 (by omega) 1)
          refine ⟨S9.out.kf, fun g hg => (S9.out.i.rest g (hSlt g hg) (by rcases hg with rfl | rfl <;> omega) (by rcases hg with rfl | rfl <;> omega) (by rcases hg with rfl | rfl <;> omega)).trans (S0.out.i.rest g (hSlt g hg) (by rcases hg with rfl | rfl <;> omega) (by rcases hg with rfl | rfl <;> omega) (by rcases hg with rfl | rfl <;> omega)).symm, ?_, S9.out.be⟩
          rw [EQ8.out, EQ9.out, EQ10.out, show n + 1 = 1 by omega]
          exact S9.out.i
        · have d8 : (n == 0) = false := by rw [beq_eq_false_iff_ne]; exact hp0
          have d8' : decide (n = 0) = false := by simp [hp0]
          gi_wp2_with (first | exact (undef_no (by assumption)).elim | (refine ⟨trivial, ?_⟩; go_at_K))
          all_goals exact ⟨S0.out.kf.trans ((KeepsOthers.setCell _ _ _).from _), HNe.out (by have := HNx.out; omega)⟩
      · have hB : headB x.val = true := by unfold headB; simp [hx0]
        rw [hB] at EQ10 ⊢
        simp only [if_true, Int.add_zero] at EQ10 EQ9
        have hbt2 := HBt.out hx0
        have S2 := Lib.hid (S0.out.set10 (by omega) (k + 1))
        obtain ⟨c7b, c5b, c4b, z4b, lb⟩ := HRd.out _ _ _ _ S2.out.i
        have c8b := S2.out.i.c8.cell 0
        have z8b := S2.out.i.c8.frozen 0
        have c9b := S2.out.i.c9.cell 0
        have z9b := S2.out.i.c9.frozen 0
        have c10b := S2.out.i.c10.cell 0
        have z10b := S2.out.i.c10.frozen 0
        by_cases hg0 : x.val = pre.length
        · have da : (at' == bt) = true := by rw [hbt2.2 hg0]; simp
          gi_wp2_with (refine ⟨trivial, ?_⟩; gi_at_call 16; refine (HBk.out _ lb).mono ?_; rintro e w6 ⟨rfl, x6⟩; have S6 := Lib.hid (S2.out.ext x6); have c8w := S6.out.i.c8.cell 0; have z8w := S6.out.i.c8.frozen 0; obtain ⟨_, _, c4w, z4w, _⟩ := HRd.out _ _ _ _ S6.out.i)
          have S9 := Lib.hid (S6.out.set8 (by omega) (n + 1))
          refine ⟨S9.out.kf, fun g hg => (S9.out.i.rest g (hSlt g hg) (by rcases hg with rfl | rfl <;> omega) (by rcases hg with rfl | rfl <;> omega) (by rcases hg with rfl | rfl <;> omega)).trans (S0.out.i.rest g (hSlt g hg) (by rcases hg with rfl | rfl <;> omega) (by rcases hg with rfl | rfl <;> omega) (by rcases hg with rfl | rfl <;> omega)).symm, ?_, S9.out.be⟩
          rw [EQ8.out, EQ9.out, EQ10.out]
          exact S9.out.i
        · have da : (at' == bt) = false := by rw [beq_eq_false_iff_ne]; exact fun h => hg0 (hbt2.1 h)
          gi_wp2_with (first | exact (undef_no (by assumption)).elim | (refine ⟨trivial, ?_⟩; gi_at_call 16; refine (HBk.out _ lb).mono ?_; rintro e w6 ⟨rfl, x6⟩; have S6 := Lib.hid (S2.out.ext x6); have c8w := S6.out.i.c8.cell 0; have z8w := S6.out.i.c8.frozen 0; obtain ⟨_, _, c4w, z4w, _⟩ := HRd.out _ _ _ _ S6.out.i))
          exact ⟨S6.out.kf.trans ((KeepsOthers.setCell _ _ _).from _), HNe.out hg0⟩
  case done =>
    rintro D xs W hD rfl ⟨hi, hbe⟩ hKd
    have hcb := (cntB_all (m := b)).1
    have e8 : ((List.finRange (b + 1)).length : Int) = 1 + (b : Int) := by rw [List.length_finRange]; omega
    rw [e8, hcb, HCn.out] at hi
    have HI := Lib.hid hi
    have HBe := Lib.hid hbe
    have HKd := Lib.hid hKd
    have hDn : w5.heap.size ≤ D := hD
    have hWs : w5.heap.size ≤ W.heap.size := by
      have h := hi.rest (w4.heap.size + 1 + 1 + 1 + 1) (by omega) (by omega) (by omega) (by omega)
      have h2 := (Array.getElem?_eq_some_iff.1 (h.trans (Array.getElem?_eq_getElem (by omega)))).1
      omega
    have HG2 : Hid (Blk W w.heap.size 29 [.int .i64 t, .int .i64 s, .int .i64 l, .int .i64 b]) := Lib.hid ((hi.rest _ (by omega) (by omega) (by omega) (by omega)).trans G2.out)
    have HG3 : Hid (Blk W (w.heap.size + 1) 31 [.int .i64 kd, .int .u32 (a : Int), .int .u32 v]) := Lib.hid ((hi.rest _ (by omega) (by omega) (by omega) (by omega)).trans G3.out)
    have HG4 : Hid (Blk W (w.heap.size + 1 + 1) 4 [.bool false]) := Lib.hid ((hi.rest _ (by omega) (by omega) (by omega) (by omega)).trans G4.out)
    have HG5 : Hid (Blk W w2.heap.size 33 [.pointer (some ⟨gl, 0, none⟩)]) := Lib.hid ((hi.rest _ (by omega) (by omega) (by omega) (by omega)).trans G5.out)
    have HG7 : Hid (Blk W w4.heap.size 3 [.int .i64 want]) := Lib.hid ((hi.rest _ (by omega) (by omega) (by omega) (by omega)).trans G7.out)
    have HGL : Hid (Blk W gl 71 (cellsF (layF t s l b))) := Lib.hid ((hi.rest gl (by omega) (by omega) (by omega) (by omega)).trans GL.out)
    clear hi hbe hKd hD i1 be1 hcb e8
    have wb : IntKind.i64.wrap (1 + (b : Int)) = 1 + (b : Int) := i64wH _ (by omega) (by omega)
    have dE : ((1 + (b : Int)) == (1 + (b : Int))) = true := by simp
    have dB : ((b : Int) == (b : Int)) = true := by simp
    have dW : (want == want) = true := by simp
    have o0 : W.cell? ⟨w.heap.size + 1, 0, none⟩ = some (.int .i64 kd) := HG3.out.cell 0
    have o1 : W.cell? ⟨w.heap.size + 1, 1, none⟩ = some (.int .u32 (a : Int)) := HG3.out.cell 1
    have o2 : W.cell? ⟨w.heap.size + 1, 2, none⟩ = some (.int .u32 v) := HG3.out.cell 2
    have p5 : W.cell? ⟨w2.heap.size, 0, none⟩ = some (.pointer (some ⟨gl, 0, none⟩)) := HG5.out.cell 0
    have hlast : ∃ f3 : Int × Bool × Bool, f3 = (if 3 ≤ kd ∧ kd ≤ 8 then 1 else 0, decide (3 ≤ kd), decide (kd ≤ 8)) := ⟨_, rfl⟩
    have HFin : Hid (∀ w7, Ext W w7 → HhI w5 w4.heap.size (1 + (b : Int)) ((if 3 ≤ kd ∧ kd ≤ 8 then 1 else 0 : Nat) : Int) (b : Int) W → w7.cell? ⟨w4.heap.size, 0, none⟩ = some (.int .i64 want) ∧ w7.cell? ⟨w4.heap.size + 1, 0, none⟩ = some (.int .i64 (1 + (b : Int))) ∧ w7.cell? ⟨w4.heap.size + 1 + 1, 0, none⟩ = some (.int .i64 ((if 3 ≤ kd ∧ kd ≤ 8 then 1 else 0 : Nat) : Int)) ∧ w7.cell? ⟨w4.heap.size + 1 + 1 + 1, 0, none⟩ = some (.int .i64 (b : Int)) ∧ w7.cell? ⟨w.heap.size, 3, none⟩ = some (.int .i64 b) ∧ w7.cell? ⟨w.heap.size + 1 + 1, 0, none⟩ = some (.bool false) ∧ w7.frozen? ⟨w.heap.size + 1 + 1, 0, none⟩ = false) := Lib.hid (fun w7 x h => ⟨(HG7.out.ext x).cell 0, (h.c8.ext x).cell 0, (h.c9.ext x).cell 0, (h.c10.ext x).cell 0, (HG2.out.ext x).cell 3, (HG4.out.ext x).cell 0, (HG4.out.ext x).frozen 0⟩)
    have HFi2 := Lib.hid (fun w7 x => HFin.out w7 x HI.out)
    clear HFin HI hlast
    obtain ⟨k7, k8, k9, k10, k2, k4, kz⟩ := HFi2.out W (Ext.refl _)
    by_cases hk3 : 3 ≤ kd
    · by_cases hk8 : kd ≤ 8
      · have d3 : decide (3 ≤ kd) = true := by simp; omega
        have d8 : decide (kd ≤ 8) = true := by simp; omega
        rw [if_pos ⟨hk3, hk8⟩] at k9 HFi2
        change W.cell? ⟨w4.heap.size + 1 + 1, 0, none⟩ = some (.int .i64 1) at k9
        have HKp : Hid (∀ W7, Ext W W7 → (W7.cell? ⟨w2.heap.size, 0, none⟩ = some (.pointer (some ⟨gl, 0, none⟩)) ∧ W7.cell? ⟨w.heap.size + 1, 0, none⟩ = some (.int .i64 kd) ∧ W7.cell? ⟨w.heap.size + 1, 1, none⟩ = some (.int .u32 (a : Int)) ∧ W7.cell? ⟨w.heap.size + 1, 2, none⟩ = some (.int .u32 v)) ∧ (W7.cell? ⟨w4.heap.size, 0, none⟩ = some (.int .i64 want) ∧ W7.cell? ⟨w4.heap.size + 1, 0, none⟩ = some (.int .i64 (1 + (b : Int))) ∧ W7.cell? ⟨w4.heap.size + 1 + 1, 0, none⟩ = some (.int .i64 1) ∧ W7.cell? ⟨w4.heap.size + 1 + 1 + 1, 0, none⟩ = some (.int .i64 (b : Int))) ∧ W7.cell? ⟨w.heap.size, 3, none⟩ = some (.int .i64 b) ∧ W7.cell? ⟨w.heap.size + 1 + 1, 0, none⟩ = some (.bool (resB W7 (w.heap.size + 1 + 1))) ∧ W7.frozen? ⟨w.heap.size + 1 + 1, 0, none⟩ = false) := Lib.hid (fun W7 x => by
          obtain ⟨m7, m8, m9, m10, m2, m4, mz⟩ := HFi2.out W7 x
          exact ⟨⟨(HG5.out.ext x).cell 0, (HG3.out.ext x).cell 0, (HG3.out.ext x).cell 1, (HG3.out.ext x).cell 2⟩, ⟨m7, m8, m9, m10⟩, m2, resB_at m4, mz⟩)
        have HKs : Hid (∀ W8, Ext W W8 → (fun W7 => (W7.cell? ⟨w2.heap.size, 0, none⟩ = some (.pointer (some ⟨gl, 0, none⟩)) ∧ W7.cell? ⟨w.heap.size + 1, 0, none⟩ = some (.int .i64 kd) ∧ W7.cell? ⟨w.heap.size + 1, 1, none⟩ = some (.int .u32 (a : Int)) ∧ W7.cell? ⟨w.heap.size + 1, 2, none⟩ = some (.int .u32 v)) ∧ (W7.cell? ⟨w4.heap.size, 0, none⟩ = some (.int .i64 want) ∧ W7.cell? ⟨w4.heap.size + 1, 0, none⟩ = some (.int .i64 (1 + (b : Int))) ∧ W7.cell? ⟨w4.heap.size + 1 + 1, 0, none⟩ = some (.int .i64 1) ∧ W7.cell? ⟨w4.heap.size + 1 + 1 + 1, 0, none⟩ = some (.int .i64 (b : Int))) ∧ W7.cell? ⟨w.heap.size, 3, none⟩ = some (.int .i64 b) ∧ W7.cell? ⟨w.heap.size + 1 + 1, 0, none⟩ = some (.bool (resB W7 (w.heap.size + 1 + 1))) ∧ W7.frozen? ⟨w.heap.size + 1 + 1, 0, none⟩ = false) (W8.setCell ⟨w.heap.size + 1 + 1, 0, none⟩ (.bool true))) := Lib.hid (fun W8 x => by
          obtain ⟨m7, m8, m9, m10, m2, m4, mz⟩ := HFi2.out W8 x
          have hh : ∀ g o v, W8.cell? ⟨g, o, none⟩ = some v → g ≠ w.heap.size + 1 + 1 → (W8.setCell ⟨w.heap.size + 1 + 1, 0, none⟩ (.bool true)).cell? ⟨g, o, none⟩ = some v := fun g o v hc hne => (World.cell?_of_block (Below.heap_setCell W8 ⟨w.heap.size + 1 + 1, 0, none⟩ _ g hne)).trans hc
          have h4 : Blk (W8.setCell ⟨w.heap.size + 1 + 1, 0, none⟩ (.bool true)) (w.heap.size + 1 + 1) 4 [.bool true] := (HG4.out.ext x).set 0 _
          exact ⟨⟨hh _ _ _ ((HG5.out.ext x).cell 0) (by omega), hh _ _ _ ((HG3.out.ext x).cell 0) (by omega), hh _ _ _ ((HG3.out.ext x).cell 1) (by omega), hh _ _ _ ((HG3.out.ext x).cell 2) (by omega)⟩, ⟨hh _ _ _ m7 (by omega), hh _ _ _ m8 (by omega), hh _ _ _ m9 (by omega), hh _ _ _ m10 (by omega)⟩, hh _ _ _ m2 (by omega), resB_at (h4.cell 0), h4.frozen 0⟩)
        have X := Lib.hid ((Ext.refl W).drew)
        gi_wp2_with fail
        refine wpIn_wide.2 ?_
        go_region_held3 (fun W7 => (W7.cell? ⟨w2.heap.size, 0, none⟩ = some (.pointer (some ⟨gl, 0, none⟩)) ∧ W7.cell? ⟨w.heap.size + 1, 0, none⟩ = some (.int .i64 kd) ∧ W7.cell? ⟨w.heap.size + 1, 1, none⟩ = some (.int .u32 (a : Int)) ∧ W7.cell? ⟨w.heap.size + 1, 2, none⟩ = some (.int .u32 v)) ∧ (W7.cell? ⟨w4.heap.size, 0, none⟩ = some (.int .i64 want) ∧ W7.cell? ⟨w4.heap.size + 1, 0, none⟩ = some (.int .i64 (1 + (b : Int))) ∧ W7.cell? ⟨w4.heap.size + 1 + 1, 0, none⟩ = some (.int .i64 1) ∧ W7.cell? ⟨w4.heap.size + 1 + 1 + 1, 0, none⟩ = some (.int .i64 (b : Int))) ∧ W7.cell? ⟨w.heap.size, 3, none⟩ = some (.int .i64 b) ∧ W7.cell? ⟨w.heap.size + 1 + 1, 0, none⟩ = some (.bool (resB W7 (w.heap.size + 1 + 1))) ∧ W7.frozen? ⟨w.heap.size + 1 + 1, 0, none⟩ = false) (first | exact HKp.out _ X.out | exact HKs.out _ X.out | go_keep) (first
          | (go_at_call 10; refine (callsIn_wide.1 (HAw.out _)).mono ?_; rintro e w6 ⟨rfl, rfl⟩)
          | (go_at_call 17; refine (callsIn_wide.1 (HHd.out _ gl (HGL.out.ext X.out))).mono ?_; rintro e w7 ⟨rfl, x7⟩; replace X := Lib.hid (X.out.trans x7); clear x7))
        all_goals
          have hDW : D < W.heap.size := (Array.getElem?_eq_some_iff.1 HKd.out).1
          have kd2 := (Below.heap_setCell w7 ⟨w.heap.size + 1 + 1, 0, none⟩ (.bool true) D (by show D ≠ w.heap.size + 1 + 1; omega)).trans ((X.out.block D hDW).trans HKd.out)
          have be2 : Below w.heap.size w (w7.setCell ⟨w.heap.size + 1 + 1, 0, none⟩ (.bool true)) := (HBe.out.trans (Below.mono X.out.below HBe.out.size)).setCell (p := ⟨w.heap.size + 1 + 1, 0, none⟩) (show w.heap.size ≤ w.heap.size + 1 + 1 by omega) _
          have hBW := Lib.hid (be2.trans (belowK_b (w := w) (Nat.le_refl _) _ D _ (.deferred none) (by omega) kd2 rfl rfl))
          have C4 : Hid (Blk ((w7.setCell ⟨w.heap.size + 1 + 1, 0, none⟩ (.bool true)).putObj D (.deferred none)) (w.heap.size + 1 + 1) 4 [.bool true]) := Lib.hid ((World.putObj_heap_other (by omega)).trans ((HG4.out.ext X.out).set 0 _))
          have HK2 := Lib.hid kd2
          clear kd2 be2
          gi_wp2
          refine ⟨by simp, .inl ⟨_, _, rfl, run_takeDeferred HK2.out, ?_⟩⟩
          refine ⟨_, ?_, rfl, Ext.of hBW.out⟩
          rw [results_cell1 rfl]
          have c3 := C4.out.cell 0
          go_simp
      · have d3 : decide (3 ≤ kd) = true := by simp; omega
        have d8 : decide (kd ≤ 8) = false := by simp; omega
        rw [if_neg (by omega)] at k9 HFi2
        change W.cell? ⟨w4.heap.size + 1 + 1, 0, none⟩ = some (.int .i64 0) at k9
        have HKp : Hid (∀ W7, Ext W W7 → (W7.cell? ⟨w2.heap.size, 0, none⟩ = some (.pointer (some ⟨gl, 0, none⟩)) ∧ W7.cell? ⟨w.heap.size + 1, 0, none⟩ = some (.int .i64 kd) ∧ W7.cell? ⟨w.heap.size + 1, 1, none⟩ = some (.int .u32 (a : Int)) ∧ W7.cell? ⟨w.heap.size + 1, 2, none⟩ = some (.int .u32 v)) ∧ (W7.cell? ⟨w4.heap.size, 0, none⟩ = some (.int .i64 want) ∧ W7.cell? ⟨w4.heap.size + 1, 0, none⟩ = some (.int .i64 (1 + (b : Int))) ∧ W7.cell? ⟨w4.heap.size + 1 + 1, 0, none⟩ = some (.int .i64 0) ∧ W7.cell? ⟨w4.heap.size + 1 + 1 + 1, 0, none⟩ = some (.int .i64 (b : Int))) ∧ W7.cell? ⟨w.heap.size, 3, none⟩ = some (.int .i64 b) ∧ W7.cell? ⟨w.heap.size + 1 + 1, 0, none⟩ = some (.bool (resB W7 (w.heap.size + 1 + 1))) ∧ W7.frozen? ⟨w.heap.size + 1 + 1, 0, none⟩ = false) := Lib.hid (fun W7 x => by
          obtain ⟨m7, m8, m9, m10, m2, m4, mz⟩ := HFi2.out W7 x
          exact ⟨⟨(HG5.out.ext x).cell 0, (HG3.out.ext x).cell 0, (HG3.out.ext x).cell 1, (HG3.out.ext x).cell 2⟩, ⟨m7, m8, m9, m10⟩, m2, resB_at m4, mz⟩)
        have HKs : Hid (∀ W8, Ext W W8 → (fun W7 => (W7.cell? ⟨w2.heap.size, 0, none⟩ = some (.pointer (some ⟨gl, 0, none⟩)) ∧ W7.cell? ⟨w.heap.size + 1, 0, none⟩ = some (.int .i64 kd) ∧ W7.cell? ⟨w.heap.size + 1, 1, none⟩ = some (.int .u32 (a : Int)) ∧ W7.cell? ⟨w.heap.size + 1, 2, none⟩ = some (.int .u32 v)) ∧ (W7.cell? ⟨w4.heap.size, 0, none⟩ = some (.int .i64 want) ∧ W7.cell? ⟨w4.heap.size + 1, 0, none⟩ = some (.int .i64 (1 + (b : Int))) ∧ W7.cell? ⟨w4.heap.size + 1 + 1, 0, none⟩ = some (.int .i64 0) ∧ W7.cell? ⟨w4.heap.size + 1 + 1 + 1, 0, none⟩ = some (.int .i64 (b : Int))) ∧ W7.cell? ⟨w.heap.size, 3, none⟩ = some (.int .i64 b) ∧ W7.cell? ⟨w.heap.size + 1 + 1, 0, none⟩ = some (.bool (resB W7 (w.heap.size + 1 + 1))) ∧ W7.frozen? ⟨w.heap.size + 1 + 1, 0, none⟩ = false) (W8.setCell ⟨w.heap.size + 1 + 1, 0, none⟩ (.bool true))) := Lib.hid (fun W8 x => by
          obtain ⟨m7, m8, m9, m10, m2, m4, mz⟩ := HFi2.out W8 x
          have hh : ∀ g o v, W8.cell? ⟨g, o, none⟩ = some v → g ≠ w.heap.size + 1 + 1 → (W8.setCell ⟨w.heap.size + 1 + 1, 0, none⟩ (.bool true)).cell? ⟨g, o, none⟩ = some v := fun g o v hc hne => (World.cell?_of_block (Below.heap_setCell W8 ⟨w.heap.size + 1 + 1, 0, none⟩ _ g hne)).trans hc
          have h4 : Blk (W8.setCell ⟨w.heap.size + 1 + 1, 0, none⟩ (.bool true)) (w.heap.size + 1 + 1) 4 [.bool true] := (HG4.out.ext x).set 0 _
          exact ⟨⟨hh _ _ _ ((HG5.out.ext x).cell 0) (by omega), hh _ _ _ ((HG3.out.ext x).cell 0) (by omega), hh _ _ _ ((HG3.out.ext x).cell 1) (by omega), hh _ _ _ ((HG3.out.ext x).cell 2) (by omega)⟩, ⟨hh _ _ _ m7 (by omega), hh _ _ _ m8 (by omega), hh _ _ _ m9 (by omega), hh _ _ _ m10 (by omega)⟩, hh _ _ _ m2 (by omega), resB_at (h4.cell 0), h4.frozen 0⟩)
        have X := Lib.hid ((Ext.refl W).drew)
        gi_wp2_with fail
        refine wpIn_wide.2 ?_
        go_region_held3 (fun W7 => (W7.cell? ⟨w2.heap.size, 0, none⟩ = some (.pointer (some ⟨gl, 0, none⟩)) ∧ W7.cell? ⟨w.heap.size + 1, 0, none⟩ = some (.int .i64 kd) ∧ W7.cell? ⟨w.heap.size + 1, 1, none⟩ = some (.int .u32 (a : Int)) ∧ W7.cell? ⟨w.heap.size + 1, 2, none⟩ = some (.int .u32 v)) ∧ (W7.cell? ⟨w4.heap.size, 0, none⟩ = some (.int .i64 want) ∧ W7.cell? ⟨w4.heap.size + 1, 0, none⟩ = some (.int .i64 (1 + (b : Int))) ∧ W7.cell? ⟨w4.heap.size + 1 + 1, 0, none⟩ = some (.int .i64 0) ∧ W7.cell? ⟨w4.heap.size + 1 + 1 + 1, 0, none⟩ = some (.int .i64 (b : Int))) ∧ W7.cell? ⟨w.heap.size, 3, none⟩ = some (.int .i64 b) ∧ W7.cell? ⟨w.heap.size + 1 + 1, 0, none⟩ = some (.bool (resB W7 (w.heap.size + 1 + 1))) ∧ W7.frozen? ⟨w.heap.size + 1 + 1, 0, none⟩ = false) (first | exact HKp.out _ X.out | exact HKs.out _ X.out | go_keep) (first
          | (go_at_call 10; refine (callsIn_wide.1 (HAw.out _)).mono ?_; rintro e w6 ⟨rfl, rfl⟩)
          | (go_at_call 17; refine (callsIn_wide.1 (HHd.out _ gl (HGL.out.ext X.out))).mono ?_; rintro e w7 ⟨rfl, x7⟩; replace X := Lib.hid (X.out.trans x7); clear x7))
        all_goals
          have hDW : D < W.heap.size := (Array.getElem?_eq_some_iff.1 HKd.out).1
          have kd2 := (Below.heap_setCell w7 ⟨w.heap.size + 1 + 1, 0, none⟩ (.bool true) D (by show D ≠ w.heap.size + 1 + 1; omega)).trans ((X.out.block D hDW).trans HKd.out)
          have be2 : Below w.heap.size w (w7.setCell ⟨w.heap.size + 1 + 1, 0, none⟩ (.bool true)) := (HBe.out.trans (Below.mono X.out.below HBe.out.size)).setCell (p := ⟨w.heap.size + 1 + 1, 0, none⟩) (show w.heap.size ≤ w.heap.size + 1 + 1 by omega) _
          have hBW := Lib.hid (be2.trans (belowK_b (w := w) (Nat.le_refl _) _ D _ (.deferred none) (by omega) kd2 rfl rfl))
          have C4 : Hid (Blk ((w7.setCell ⟨w.heap.size + 1 + 1, 0, none⟩ (.bool true)).putObj D (.deferred none)) (w.heap.size + 1 + 1) 4 [.bool true]) := Lib.hid ((World.putObj_heap_other (by omega)).trans ((HG4.out.ext X.out).set 0 _))
          have HK2 := Lib.hid kd2
          clear kd2 be2
          gi_wp2
          refine ⟨by simp, .inl ⟨_, _, rfl, run_takeDeferred HK2.out, ?_⟩⟩
          refine ⟨_, ?_, rfl, Ext.of hBW.out⟩
          rw [results_cell1 rfl]
          have c3 := C4.out.cell 0
          go_simp
    · have d3 : decide (3 ≤ kd) = false := by simp; omega
      rw [if_neg (by omega)] at k9 HFi2
      change W.cell? ⟨w4.heap.size + 1 + 1, 0, none⟩ = some (.int .i64 0) at k9
      have HKp : Hid (∀ W7, Ext W W7 → (W7.cell? ⟨w2.heap.size, 0, none⟩ = some (.pointer (some ⟨gl, 0, none⟩)) ∧ W7.cell? ⟨w.heap.size + 1, 0, none⟩ = some (.int .i64 kd) ∧ W7.cell? ⟨w.heap.size + 1, 1, none⟩ = some (.int .u32 (a : Int)) ∧ W7.cell? ⟨w.heap.size + 1, 2, none⟩ = some (.int .u32 v)) ∧ (W7.cell? ⟨w4.heap.size, 0, none⟩ = some (.int .i64 want) ∧ W7.cell? ⟨w4.heap.size + 1, 0, none⟩ = some (.int .i64 (1 + (b : Int))) ∧ W7.cell? ⟨w4.heap.size + 1 + 1, 0, none⟩ = some (.int .i64 0) ∧ W7.cell? ⟨w4.heap.size + 1 + 1 + 1, 0, none⟩ = some (.int .i64 (b : Int))) ∧ W7.cell? ⟨w.heap.size, 3, none⟩ = some (.int .i64 b) ∧ W7.cell? ⟨w.heap.size + 1 + 1, 0, none⟩ = some (.bool (resB W7 (w.heap.size + 1 + 1))) ∧ W7.frozen? ⟨w.heap.size + 1 + 1, 0, none⟩ = false) := Lib.hid (fun W7 x => by
        obtain ⟨m7, m8, m9, m10, m2, m4, mz⟩ := HFi2.out W7 x
        exact ⟨⟨(HG5.out.ext x).cell 0, (HG3.out.ext x).cell 0, (HG3.out.ext x).cell 1, (HG3.out.ext x).cell 2⟩, ⟨m7, m8, m9, m10⟩, m2, resB_at m4, mz⟩)
      have HKs : Hid (∀ W8, Ext W W8 → (fun W7 => (W7.cell? ⟨w2.heap.size, 0, none⟩ = some (.pointer (some ⟨gl, 0, none⟩)) ∧ W7.cell? ⟨w.heap.size + 1, 0, none⟩ = some (.int .i64 kd) ∧ W7.cell? ⟨w.heap.size + 1, 1, none⟩ = some (.int .u32 (a : Int)) ∧ W7.cell? ⟨w.heap.size + 1, 2, none⟩ = some (.int .u32 v)) ∧ (W7.cell? ⟨w4.heap.size, 0, none⟩ = some (.int .i64 want) ∧ W7.cell? ⟨w4.heap.size + 1, 0, none⟩ = some (.int .i64 (1 + (b : Int))) ∧ W7.cell? ⟨w4.heap.size + 1 + 1, 0, none⟩ = some (.int .i64 0) ∧ W7.cell? ⟨w4.heap.size + 1 + 1 + 1, 0, none⟩ = some (.int .i64 (b : Int))) ∧ W7.cell? ⟨w.heap.size, 3, none⟩ = some (.int .i64 b) ∧ W7.cell? ⟨w.heap.size + 1 + 1, 0, none⟩ = some (.bool (resB W7 (w.heap.size + 1 + 1))) ∧ W7.frozen? ⟨w.heap.size + 1 + 1, 0, none⟩ = false) (W8.setCell ⟨w.heap.size + 1 + 1, 0, none⟩ (.bool true))) := Lib.hid (fun W8 x => by
        obtain ⟨m7, m8, m9, m10, m2, m4, mz⟩ := HFi2.out W8 x
        have hh : ∀ g o v, W8.cell? ⟨g, o, none⟩ = some v → g ≠ w.heap.size + 1 + 1 → (W8.setCell ⟨w.heap.size + 1 + 1, 0, none⟩ (.bool true)).cell? ⟨g, o, none⟩ = some v := fun g o v hc hne => (World.cell?_of_block (Below.heap_setCell W8 ⟨w.heap.size + 1 + 1, 0, none⟩ _ g hne)).trans hc
        have h4 : Blk (W8.setCell ⟨w.heap.size + 1 + 1, 0, none⟩ (.bool true)) (w.heap.size + 1 + 1) 4 [.bool true] := (HG4.out.ext x).set 0 _
        exact ⟨⟨hh _ _ _ ((HG5.out.ext x).cell 0) (by omega), hh _ _ _ ((HG3.out.ext x).cell 0) (by omega), hh _ _ _ ((HG3.out.ext x).cell 1) (by omega), hh _ _ _ ((HG3.out.ext x).cell 2) (by omega)⟩, ⟨hh _ _ _ m7 (by omega), hh _ _ _ m8 (by omega), hh _ _ _ m9 (by omega), hh _ _ _ m10 (by omega)⟩, hh _ _ _ m2 (by omega), resB_at (h4.cell 0), h4.frozen 0⟩)
      have X := Lib.hid ((Ext.refl W).drew)
      gi_wp2_with fail
      refine wpIn_wide.2 ?_
      go_region_held3 (fun W7 => (W7.cell? ⟨w2.heap.size, 0, none⟩ = some (.pointer (some ⟨gl, 0, none⟩)) ∧ W7.cell? ⟨w.heap.size + 1, 0, none⟩ = some (.int .i64 kd) ∧ W7.cell? ⟨w.heap.size + 1, 1, none⟩ = some (.int .u32 (a : Int)) ∧ W7.cell? ⟨w.heap.size + 1, 2, none⟩ = some (.int .u32 v)) ∧ (W7.cell? ⟨w4.heap.size, 0, none⟩ = some (.int .i64 want) ∧ W7.cell? ⟨w4.heap.size + 1, 0, none⟩ = some (.int .i64 (1 + (b : Int))) ∧ W7.cell? ⟨w4.heap.size + 1 + 1, 0, none⟩ = some (.int .i64 0) ∧ W7.cell? ⟨w4.heap.size + 1 + 1 + 1, 0, none⟩ = some (.int .i64 (b : Int))) ∧ W7.cell? ⟨w.heap.size, 3, none⟩ = some (.int .i64 b) ∧ W7.cell? ⟨w.heap.size + 1 + 1, 0, none⟩ = some (.bool (resB W7 (w.heap.size + 1 + 1))) ∧ W7.frozen? ⟨w.heap.size + 1 + 1, 0, none⟩ = false) (first | exact HKp.out _ X.out | exact HKs.out _ X.out | go_keep) (first
        | (go_at_call 10; refine (callsIn_wide.1 (HAw.out _)).mono ?_; rintro e w6 ⟨rfl, rfl⟩)
        | (go_at_call 17; refine (callsIn_wide.1 (HHd.out _ gl (HGL.out.ext X.out))).mono ?_; rintro e w7 ⟨rfl, x7⟩; replace X := Lib.hid (X.out.trans x7); clear x7))
      all_goals
        have hDW : D < W.heap.size := (Array.getElem?_eq_some_iff.1 HKd.out).1
        have kd2 := (Below.heap_setCell w7 ⟨w.heap.size + 1 + 1, 0, none⟩ (.bool true) D (by show D ≠ w.heap.size + 1 + 1; omega)).trans ((X.out.block D hDW).trans HKd.out)
        have be2 : Below w.heap.size w (w7.setCell ⟨w.heap.size + 1 + 1, 0, none⟩ (.bool true)) := (HBe.out.trans (Below.mono X.out.below HBe.out.size)).setCell (p := ⟨w.heap.size + 1 + 1, 0, none⟩) (show w.heap.size ≤ w.heap.size + 1 + 1 by omega) _
        have hBW := Lib.hid (be2.trans (belowK_b (w := w) (Nat.le_refl _) _ D _ (.deferred none) (by omega) kd2 rfl rfl))
        have C4 : Hid (Blk ((w7.setCell ⟨w.heap.size + 1 + 1, 0, none⟩ (.bool true)).putObj D (.deferred none)) (w.heap.size + 1 + 1) 4 [.bool true]) := Lib.hid ((World.putObj_heap_other (by omega)).trans ((HG4.out.ext X.out).set 0 _))
        have HK2 := Lib.hid kd2
        clear kd2 be2
        gi_wp2
        refine ⟨by simp, .inl ⟨_, _, rfl, run_takeDeferred HK2.out, ?_⟩⟩
        refine ⟨_, ?_, rfl, Ext.of hBW.out⟩
        rw [results_cell1 rfl]
        have c3 := C4.out.cell 0
        go_simp
  case stop =>
    rintro D c pre W hD ⟨j, hj⟩ ⟨p, x, rfl, hx⟩ hKd
    exact absurd (take_last hj).1 hx
set_option maxRecDepth 100000 in
set_option maxHeartbeats 4000000 in
theorem hashHeads_no (w : World) (t s l b : Int) (hg : ¬ GrOk t s l b) (kd a v : Int) :
    Calls Try.prog 4 #[.agg #[.int .i64 t, .int .i64 s, .int .i64 l, .int .i64 b], .agg #[.int .i64 kd, .int .u32 a, .int .u32 v]] w fun e w' => e = .returned (.bool true) ∧ Ext w w' := by
  have HN := Lib.hid (fun W => few9_no t s l b W hg)
  have HAw := Lib.hid (fun W => awake16_ok W)
  have BX : Ext w (((w.alloc (.cells #[.int .i64 t, .int .i64 s, .int .i64 l, .int .i64 b] 29)).alloc (.cells #[.int .i64 kd, .int .u32 a, .int .u32 v] 31)).alloc (.cells #[.bool false] 4)) := (((Ext.refl w).alloc _).alloc _).alloc _
  have B4 := Blk.new ((w.alloc (.cells #[.int .i64 t, .int .i64 s, .int .i64 l, .int .i64 b] 29)).alloc (.cells #[.int .i64 kd, .int .u32 a, .int .u32 v] 31)) 4 [.bool false]
  simp only [World.size_alloc] at B4
  have X0 := Lib.hid BX
  have HB4 := Lib.hid B4
  clear BX B4 hg
  go_enter Try.func4, Try.ntmps4
  go_wp2_with fail
  refine (HN.out _).mono ?_
  rintro e w1 ⟨rfl, x1⟩
  have X1 := Lib.hid (X0.out.trans x1)
  have HB5 := Lib.hid (HB4.out.ext x1)
  have be : Below w.heap.size w (w1.setCell ⟨w.heap.size + 1 + 1, 0, none⟩ (.bool true)) := X1.out.below.setCell (p := ⟨w.heap.size + 1 + 1, 0, none⟩) (show w.heap.size ≤ w.heap.size + 1 + 1 by omega) _
  have h4 : Blk (w1.setCell ⟨w.heap.size + 1 + 1, 0, none⟩ (.bool true)) (w.heap.size + 1 + 1) 4 [.bool true] := HB5.out.set 0 _
  have c4 : w1.cell? ⟨w.heap.size + 1 + 1, 0, none⟩ = some (.bool false) := HB5.out.cell 0
  have z4 : w1.frozen? ⟨w.heap.size + 1 + 1, 0, none⟩ = false := HB5.out.frozen 0
  have BE := Lib.hid be
  have H4 := Lib.hid h4
  clear x1 be h4
  go_wp2_with fail
  refine (HAw.out _).mono ?_
  rintro e w2 ⟨rfl, rfl⟩
  go_wp2_with fail
  have c5 := H4.out.cell 0
  refine bodyPost_ret (v := .bool true) ?_ rfl ⟨rfl, Ext.of BE.out⟩
  rw [results_cell1 rfl]
  go_simp
theorem hashHeads_walk (w : World) (t s l b : Int) (kd a v : Int) (ha : 0 ≤ a ∧ a < 4294967296) :
    Calls Try.prog 4 #[.agg #[.int .i64 t, .int .i64 s, .int .i64 l, .int .i64 b], .agg #[.int .i64 kd, .int .u32 a, .int .u32 v]] w fun e w' => e = .returned (.bool true) ∧ Ext w w' := by
  by_cases h : GrOk t s l b
  · obtain ⟨⟨q0, q1⟩, ⟨q2, q3⟩, ⟨q4, q5⟩, q6, q7⟩ := id h.1
    obtain ⟨t', rfl⟩ := Int.eq_ofNat_of_zero_le (show 0 ≤ t by omega)
    obtain ⟨s', rfl⟩ := Int.eq_ofNat_of_zero_le (show 0 ≤ s by omega)
    obtain ⟨l', rfl⟩ := Int.eq_ofNat_of_zero_le (show 0 ≤ l by omega)
    obtain ⟨b', rfl⟩ := Int.eq_ofNat_of_zero_le (show 0 ≤ b by omega)
    obtain ⟨a', rfl⟩ := Int.eq_ofNat_of_zero_le ha.1
    exact hashHeads_yes w t' s' l' b' h kd a' (by omega) v
  · exact hashHeads_no w t s l b h kd a v

namespace hashHeads
set_option maxRecDepth 100000 in
theorem lifted (os : Os) (started : os.Started) (H : Type) (enc : TypeId × Value → H) :
    ReturnsInHanded {} Try.checked os 4 .any (Rows.hashHeadsSpec.pre6 enc Try.prog Try.f4 Rows.hashHeadsRow.domain false) (Rows.hashHeadsSpec.post enc Try.prog Try.f4 false true false false) := by
  refine returnsInHanded_of_change (C := Try.checked) own started (by kernel_rfl) Try.func4
    (ChangeSpec.witness6 (enc := enc) (C := Try.checked) false ⟨#[], #[.agg #[.int .i64 0, .int .i64 0, .int .i64 0, .int .i64 0], .agg #[.int .i64 0, .int .u32 0, .int .u32 0]], []⟩ 8 (by kernel_rfl) (by kernel_rfl) (by kernel_rfl) (by kernel_rfl)) ?_
  intro W base args ds gs before hval0 hW hcnd _
  have hval : ∀ (j : Nat) t v, Try.f4.params[j]? = some t → args[j]? = some v → Value.okWide Try.prog W .any base t v := hval0
  have hW' := hW
  obtain ⟨p, q, hA0, hV, rfl, hfz, hnd⟩ := hW
  have hA : DataW.TrodAll enc Try.prog W 0 (fun _ => true) true Try.f4.params.toList args.toList ds p := hA0
  have hlt : ∀ x ∈ p ++ q, x.block < W.heap.size := fun x hx => hW'.lt x hx
  rw [Try.params4] at hA hval
  have hB := hA
  obtain ⟨v0, vs0, d0, ds0, p0, q0, hargs, rfl, rfl, h0, r0⟩ := trodAll_cons hB
  obtain ⟨v1, vs1, d1, ds1, p1, q1, rfl, rfl, rfl, h1, r1⟩ := trodAll_cons r0
  obtain ⟨rfl, rfl, rfl⟩ := trodAll_nil r1
  obtain rfl : args = #[v0, v1] := by cases args; simp_all
  obtain ⟨rfl, rfl⟩ := trodVars_none hV
  obtain ⟨x0t, x0s, x0l, x0b, rfl, ok0⟩ := view_cfg Try.underlying29 (by kernel_rfl) (by kernel_rfl) Try.underlying3 Try.underlying3 Try.underlying3 Try.underlying3 (hval 0 29 v0 rfl rfl) h0
  obtain ⟨x1k, x1a, x1b, rfl, ok1⟩ := view_opR Try.underlying31 (by kernel_rfl) (by kernel_rfl) Try.underlying3 Try.underlying22 Try.underlying22 (hval 1 31 v1 rfl rfl) h1
  clear hA0 hval0
  refine (hashHeads_walk W x0t x0s x0l x0b x1k x1a x1b ok1).mono fun e W' ⟨he, hx⟩ => ?_
  subst he
  exact ⟨_, rfl, post_ext (pv := []) hW' (fun _ _ _ => (trodAll_cons_mk (shut_bool Try.underlying4 _) trodAll_mk0)) (fun sp hsp => trodAll_stays laid hx _ _ _ _ (readable_of (by kernel_rfl)) hA (fun x hx => hlt x (by first | (simp at hx ⊢; exact hx) | simp at hx)) (fun x hx => hsp x (by first | (simp at hx ⊢; exact hx) | simp at hx))) (fun _ _ => rfl) rfl hx (ok_one (by kernel_rfl) rfl (okWide_bool_mk Try.underlying4 _))⟩

theorem over : Rows.hashHeadsRow.holds Try.pinned (OpenSpec.ofChange Rows.hashHeadsSpec) :=
  OpenClaim.holds_of_wide 4 Try.f4 rfl rfl rfl rfl rfl rfl rfl ⟨rfl, rfl, rfl, rfl, rfl⟩ rfl rfl rfl rfl rfl (by kernel_rfl) Try.func4 (by kernel_rfl)
    (of_decide_eq_true (by kernel_rfl)) (by unfold Func.isWrapper; first | (rw [if_pos (by decide +kernel)]; kernel_rfl) | (rw [if_neg (by decide +kernel)]; exact ⟨rfl, rfl⟩))
    (fun os started H enc _ => lifted os started H enc)
end hashHeads

theorem hashHeads_holds : Rows.HashHeadsSaid := hashHeads.over
#print axioms hashHeads_holds
end Go.Proofs.Ytfjfeomkmhbpbaa
