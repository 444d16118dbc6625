/- A memory's accesses to words: Load, Store, Swap. Conditions: those that each theorem names. -/
import Derived.Test.YtolengkegjipaaaGreatKPmA
namespace Go.Proofs.YtolengkegjipaaaGreat
open Go.ChangeShapes Go.WideShapes Go.ChangeAt Go.RowKit
set_option linter.unusedVariables false
section
variable {Q : Nat → Prop} {wb w0 w w' : World} {gm : Nat} {dv pv : Value} {s : MSt}
set_option maxRecDepth 100000 in
set_option maxHeartbeats 1000000 in
/-- An access to a word that there is: the function that is handed in turns the memory to s1, and tells d. -/
theorem IsMem.touchL_yes (h : IsMem Q wb w0 w gm dv pv s) (k t a n : Int) (d : Bool) (s1 : MSt) (h0 : -9223372036854775808 ≤ a) (h1 : a < 9223372036854775808) (hp : peekB s a = true)
    (k0 : 0 ≤ s1.clock) (k1 : s1.clock ≤ 1000000000) (b0 : 0 ≤ s1.bad) (b1 : s1.bad ≤ 1000000000)
    (hf : ∀ (Q' : Nat → Prop) (wb' W : World), Ext w W → IsMem Q' wb' w0 W gm dv pv s → Calls Tryz.prog 112 #[.int .u64 (peekV s a)] W fun e w' => e = .returned (.bool d) ∧ IsMem Q' wb' w0 w' gm dv pv s1) :
    Calls Tryz.prog 49 #[.pointer (some ⟨gm, 0, none⟩), .agg #[.int .i64 k, .int .i64 t, .int .i64 a, .int .u64 0, .int .u64 n, .bool false], .func (.func 112) #[] #[]] w
      fun e w' => e = .returned (.agg #[.int .i64 k, .int .i64 t, .int .i64 a, .int .u64 (peekV s a), .int .u64 n, .bool d]) ∧ IsMem Q wb w0 w' gm dv pv (s1.note ⟨k, t, a, peekV s a, n, d⟩ false) := by
  have HP := Lib.hid (fun (W : World) (x : Ext w W) => (h.ext x).peek a h0 h1)
  rw [hp] at HP
  have HF := Lib.hid hf
  have HH := Lib.hid h
  clear h hf hp
  generalize peekV s a = y at *
  go_enter Tryz.func49, Tryz.ntmps49
  go_wp2_with fail
  refine (HP.out _ (by exact ext2 w _ _)).mono ?_
  rintro e w' ⟨rfl, rfl⟩
  have x1 := ext2 w (.cells #[.int .i64 k, .int .i64 t, .int .i64 a, .int .u64 0, .int .u64 n, .bool false] 76) (.cells #[.int .i64 0, .int .i64 0, .int .i64 0, .int .u64 0, .int .u64 0, .bool false] 76)
  have p1 := (Blk.new w 76 [.int .i64 k, .int .i64 t, .int .i64 a, .int .u64 0, .int .u64 n, .bool false]).ext ((Ext.refl _).alloc (.cells #[.int .i64 0, .int .i64 0, .int .i64 0, .int .u64 0, .int .u64 0, .bool false] 76))
  have p2 := Blk.new (w.alloc (.cells #[.int .i64 k, .int .i64 t, .int .i64 a, .int .u64 0, .int .u64 n, .bool false] 76)) 76 [.int .i64 0, .int .i64 0, .int .i64 0, .int .u64 0, .int .u64 0, .bool false]
  go_wp2_with fail
  have m1 : IsMem (fun g => Q g ∨ g = w.heap.size ∨ g = w.heap.size + 1) _ w0 _ gm dv pv s := HH.out.hold x1 (fun g hg => by
    rcases hg with hg | rfl | rfl
    · exact ⟨Nat.lt_of_lt_of_le (HH.out.lt.2 g hg) x1.size, Or.inl hg⟩
    · exact ⟨p1.lt, Or.inr (Nat.le_refl _)⟩
    · refine ⟨?_, Or.inr (Nat.le_succ _)⟩
      simp)
  refine (HF.out _ _ _ x1 m1).mono ?_
  rintro e w2 ⟨rfl, m2⟩
  clear HF m1 HP
  have q1 : Blk w2 w.heap.size 76 [.int .i64 k, .int .i64 t, .int .i64 a, .int .u64 0, .int .u64 n, .bool false] := (m2.keptQ _ (Or.inr (Or.inl rfl))).trans p1
  have q2 : Blk w2 (w.heap.size + 1) 76 [.int .i64 0, .int .i64 0, .int .i64 0, .int .u64 0, .int .u64 0, .bool false] := by
    have := (m2.keptQ (w.heap.size + 1) (Or.inr (Or.inr rfl)))
    unfold Blk
    rw [this]
    have := p2
    unfold Blk at this
    simpa using this
  have hb2 : ∀ g, Q g → w2.heap[g]? = wb.heap[g]? := fun g hg => (m2.keptQ g (Or.inl hg)).trans ((x1.block g (HH.out.lt.2 g hg)).trans (HH.out.keptQ g hg))
  have M2 := Lib.hid m2
  have HB := Lib.hid hb2
  clear hb2 m2
  have hs1 := q1.lt
  have hs2 := q2.lt
  have hs3 : ¬ w.heap.size = w2.heap.size := by omega
  have hs4 : ¬ w.heap.size + 1 = w2.heap.size := by omega
  have HW := Lib.hid (Nat.le_of_lt (show w.heap.size < w2.heap.size from hs1))
  clear p1 p2 x1
  have X1 := Lib.hid q1
  have X2 := Lib.hid q2
  have hk : w2.cell? ⟨w.heap.size, 0, none⟩ = some (.int .i64 k) := q1.cell 0
  have ht : w2.cell? ⟨w.heap.size, 1, none⟩ = some (.int .i64 t) := q1.cell 1
  have ha : w2.cell? ⟨w.heap.size, 2, none⟩ = some (.int .i64 a) := q1.cell 2
  have ho : w2.cell? ⟨w.heap.size, 3, none⟩ = some (.int .u64 0) := q1.cell 3
  have hn : w2.cell? ⟨w.heap.size, 4, none⟩ = some (.int .u64 n) := q1.cell 4
  have hd : w2.cell? ⟨w.heap.size, 5, none⟩ = some (.bool false) := q1.cell 5
  have f3 : w2.frozen? ⟨w.heap.size, 3, none⟩ = false := q1.frozen 3
  have f5 : w2.frozen? ⟨w.heap.size, 5, none⟩ = false := q1.frozen 5
  clear q1 q2
  go_wp2_with fail
  have fr3 : Fr (fun g => g = w.heap.size) w2 ((w2.setCell ⟨w.heap.size, 3, none⟩ (.int .u64 y)).setCell ⟨w.heap.size, 5, none⟩ (.bool d)) := Fr.setCell (S := fun g => g = w.heap.size) (p := ⟨w.heap.size, 5, none⟩) (Fr.setCell (S := fun g => g = w.heap.size) (p := ⟨w.heap.size, 3, none⟩) (Fr.refl _ w2) (Or.inl rfl) _) (Or.inl rfl) _
  have m3 := M2.out.turn fr3 (fun g hg => Or.inr (Or.inl hg)) (fun g hg => by rw [hg]; exact HH.out.lt.1.size)
  have r1 := (X1.out.set 3 (.int .u64 y)).set 5 (.bool d)
  have r2 := X2.out.fr fr3 (by omega)
  have hb3 : ∀ g, Q g → ((w2.setCell ⟨w.heap.size, 3, none⟩ (.int .u64 y)).setCell ⟨w.heap.size, 5, none⟩ (.bool d)).heap[g]? = wb.heap[g]? := fun g hg => (fr3.block g (Nat.lt_of_lt_of_le (HH.out.lt.2 g hg) HW.out) (by have := HH.out.lt.2 g hg; omega)).trans (HB.out g hg)
  refine (m3.note_ok ⟨k, t, a, y, n, d⟩ false k0 k1 b0 b1).mono ?_
  rintro e w4 ⟨⟨u, rfl⟩, m4⟩
  clear hk ht ha ho hn hd f3 f5 hs1 hs2 hs3 hs4
  have q1 : Blk w4 w.heap.size 76 [.int .i64 k, .int .i64 t, .int .i64 a, .int .u64 y, .int .u64 n, .bool d] := (m4.keptQ _ (Or.inr (Or.inl rfl))).trans r1
  have q2 : Blk w4 (w.heap.size + 1) 76 [.int .i64 0, .int .i64 0, .int .i64 0, .int .u64 0, .int .u64 0, .bool false] := (m4.keptQ _ (Or.inr (Or.inr rfl))).trans r2
  have hb4 : ∀ g, Q g → w4.heap[g]? = wb.heap[g]? := fun g hg => (m4.keptQ g (Or.inl hg)).trans (hb3 g hg)
  have M4 := Lib.hid m4
  have HB4 := Lib.hid hb4
  clear hb4 m4 hb3 r1 r2 m3 fr3 HB M2 X1 X2
  have hs1 := q1.lt
  have hs2 := q2.lt
  have g0 : w4.cell? ⟨w.heap.size, 0, none⟩ = some (.int .i64 k) := q1.cell 0
  have g1 : w4.cell? ⟨w.heap.size, 1, none⟩ = some (.int .i64 t) := q1.cell 1
  have g2 : w4.cell? ⟨w.heap.size, 2, none⟩ = some (.int .i64 a) := q1.cell 2
  have g3 : w4.cell? ⟨w.heap.size, 3, none⟩ = some (.int .u64 y) := q1.cell 3
  have g4 : w4.cell? ⟨w.heap.size, 4, none⟩ = some (.int .u64 n) := q1.cell 4
  have g5 : w4.cell? ⟨w.heap.size, 5, none⟩ = some (.bool d) := q1.cell 5
  have k00 : w4.cell? ⟨w.heap.size + 1, 0, none⟩ = some (.int .i64 0) := q2.cell 0
  have k01 : w4.cell? ⟨w.heap.size + 1, 1, none⟩ = some (.int .i64 0) := q2.cell 1
  have k02 : w4.cell? ⟨w.heap.size + 1, 2, none⟩ = some (.int .i64 0) := q2.cell 2
  have k03 : w4.cell? ⟨w.heap.size + 1, 3, none⟩ = some (.int .u64 0) := q2.cell 3
  have k04 : w4.cell? ⟨w.heap.size + 1, 4, none⟩ = some (.int .u64 0) := q2.cell 4
  have k05 : w4.cell? ⟨w.heap.size + 1, 5, none⟩ = some (.bool false) := q2.cell 5
  have f0 : w4.frozen? ⟨w.heap.size + 1, 0, none⟩ = false := q2.frozen 0
  have f1 : w4.frozen? ⟨w.heap.size + 1, 1, none⟩ = false := q2.frozen 1
  have f2 : w4.frozen? ⟨w.heap.size + 1, 2, none⟩ = false := q2.frozen 2
  have f3 : w4.frozen? ⟨w.heap.size + 1, 3, none⟩ = false := q2.frozen 3
  have f4 : w4.frozen? ⟨w.heap.size + 1, 4, none⟩ = false := q2.frozen 4
  have f5 : w4.frozen? ⟨w.heap.size + 1, 5, none⟩ = false := q2.frozen 5
  have Q2 := Lib.hid q2
  clear q1 q2
  go_wp2_with fail
  have fr5 : Fr (fun g => g = w.heap.size + 1) w4 ((((((w4.setCell ⟨w.heap.size + 1, 0, none⟩ (.int .i64 k)).setCell ⟨w.heap.size + 1, 1, none⟩ (.int .i64 t)).setCell ⟨w.heap.size + 1, 2, none⟩ (.int .i64 a)).setCell ⟨w.heap.size + 1, 3, none⟩ (.int .u64 y)).setCell ⟨w.heap.size + 1, 4, none⟩ (.int .u64 n)).setCell ⟨w.heap.size + 1, 5, none⟩ (.bool d)) := (Fr.setCell (p := ⟨w.heap.size + 1, 5, none⟩) (Fr.setCell (p := ⟨w.heap.size + 1, 4, none⟩) (Fr.setCell (p := ⟨w.heap.size + 1, 3, none⟩) (Fr.setCell (p := ⟨w.heap.size + 1, 2, none⟩) (Fr.setCell (p := ⟨w.heap.size + 1, 1, none⟩) (Fr.setCell (p := ⟨w.heap.size + 1, 0, none⟩) (Fr.refl (fun g => g = w.heap.size + 1) w4) (Or.inl rfl) (.int .i64 k)) (Or.inl rfl) (.int .i64 t)) (Or.inl rfl) (.int .i64 a)) (Or.inl rfl) (.int .u64 y)) (Or.inl rfl) (.int .u64 n)) (Or.inl rfl) (.bool d))
  have b5 : Blk ((((((w4.setCell ⟨w.heap.size + 1, 0, none⟩ (.int .i64 k)).setCell ⟨w.heap.size + 1, 1, none⟩ (.int .i64 t)).setCell ⟨w.heap.size + 1, 2, none⟩ (.int .i64 a)).setCell ⟨w.heap.size + 1, 3, none⟩ (.int .u64 y)).setCell ⟨w.heap.size + 1, 4, none⟩ (.int .u64 n)).setCell ⟨w.heap.size + 1, 5, none⟩ (.bool d)) (w.heap.size + 1) 76 [.int .i64 k, .int .i64 t, .int .i64 a, .int .u64 y, .int .u64 n, .bool d] := ((((((Q2.out.set 0 (.int .i64 k)).set 1 (.int .i64 t)).set 2 (.int .i64 a)).set 3 (.int .u64 y)).set 4 (.int .u64 n)).set 5 (.bool d))
  have m5 := (M4.out.turn fr5 (fun g hg => Or.inr (Or.inr hg)) (fun g hg => by rw [hg]; exact Nat.le_succ_of_le HH.out.lt.1.size)).less (Q' := Q) (wb' := wb) (fun g hg => Or.inl hg) (fun g hg => (fr5.block g (Nat.lt_of_lt_of_le (HH.out.lt.2 g hg) (by omega)) (by have := HH.out.lt.2 g hg; omega)).trans (HB4.out g hg))
  clear fr5 Q2 HB4 M4 g0 g1 g2 g3 g4 g5 k00 k01 k02 k03 k04 k05 f0 f1 f2 f3 f4 f5
  generalize ((((((w4.setCell ⟨w.heap.size + 1, 0, none⟩ (.int .i64 k)).setCell ⟨w.heap.size + 1, 1, none⟩ (.int .i64 t)).setCell ⟨w.heap.size + 1, 2, none⟩ (.int .i64 a)).setCell ⟨w.heap.size + 1, 3, none⟩ (.int .u64 y)).setCell ⟨w.heap.size + 1, 4, none⟩ (.int .u64 n)).setCell ⟨w.heap.size + 1, 5, none⟩ (.bool d)) = w5 at *
  have d0 := b5.cell 0
  have d1 := b5.cell 1
  have d2 := b5.cell 2
  have d3 := b5.cell 3
  have d4 := b5.cell 4
  have d5 := b5.cell 5
  exact bodyPost_ret (v := .agg #[.int .i64 k, .int .i64 t, .int .i64 a, .int .u64 y, .int .u64 n, .bool d]) (by simp [results, Tryz.results49, go_sem, d0, d1, d2, d3, d4, d5]) rfl ⟨rfl, m5⟩
set_option maxRecDepth 100000 in
set_option maxHeartbeats 1000000 in
/-- An access to a word that there is: the function that is handed in turns the memory to s1, and tells d. -/
theorem IsMem.touchS_yes (h : IsMem Q wb w0 w gm dv pv s) (k t a n : Int) (c0 : Value) (c1 : Value) (c2 : Value) (d : Bool) (s1 : MSt) (h0 : -9223372036854775808 ≤ a) (h1 : a < 9223372036854775808) (hp : peekB s a = true)
    (k0 : 0 ≤ s1.clock) (k1 : s1.clock ≤ 1000000000) (b0 : 0 ≤ s1.bad) (b1 : s1.bad ≤ 1000000000)
    (hf : ∀ (Q' : Nat → Prop) (wb' W : World), Ext w W → IsMem Q' wb' w0 W gm dv pv s → Calls Tryz.prog 50 #[.int .u64 (peekV s a), c0, c1, c2] W fun e w' => e = .returned (.bool d) ∧ IsMem Q' wb' w0 w' gm dv pv s1) :
    Calls Tryz.prog 49 #[.pointer (some ⟨gm, 0, none⟩), .agg #[.int .i64 k, .int .i64 t, .int .i64 a, .int .u64 0, .int .u64 n, .bool false], .func (.func 50) #[] #[c0, c1, c2]] w
      fun e w' => e = .returned (.agg #[.int .i64 k, .int .i64 t, .int .i64 a, .int .u64 (peekV s a), .int .u64 n, .bool d]) ∧ IsMem Q wb w0 w' gm dv pv (s1.note ⟨k, t, a, peekV s a, n, d⟩ false) := by
  have HP := Lib.hid (fun (W : World) (x : Ext w W) => (h.ext x).peek a h0 h1)
  rw [hp] at HP
  have HF := Lib.hid hf
  have HH := Lib.hid h
  clear h hf hp
  generalize peekV s a = y at *
  go_enter Tryz.func49, Tryz.ntmps49
  go_wp2_with fail
  refine (HP.out _ (by exact ext2 w _ _)).mono ?_
  rintro e w' ⟨rfl, rfl⟩
  have x1 := ext2 w (.cells #[.int .i64 k, .int .i64 t, .int .i64 a, .int .u64 0, .int .u64 n, .bool false] 76) (.cells #[.int .i64 0, .int .i64 0, .int .i64 0, .int .u64 0, .int .u64 0, .bool false] 76)
  have p1 := (Blk.new w 76 [.int .i64 k, .int .i64 t, .int .i64 a, .int .u64 0, .int .u64 n, .bool false]).ext ((Ext.refl _).alloc (.cells #[.int .i64 0, .int .i64 0, .int .i64 0, .int .u64 0, .int .u64 0, .bool false] 76))
  have p2 := Blk.new (w.alloc (.cells #[.int .i64 k, .int .i64 t, .int .i64 a, .int .u64 0, .int .u64 n, .bool false] 76)) 76 [.int .i64 0, .int .i64 0, .int .i64 0, .int .u64 0, .int .u64 0, .bool false]
  go_wp2_with fail
  have m1 : IsMem (fun g => Q g ∨ g = w.heap.size ∨ g = w.heap.size + 1) _ w0 _ gm dv pv s := HH.out.hold x1 (fun g hg => by
    rcases hg with hg | rfl | rfl
    · exact ⟨Nat.lt_of_lt_of_le (HH.out.lt.2 g hg) x1.size, Or.inl hg⟩
    · exact ⟨p1.lt, Or.inr (Nat.le_refl _)⟩
    · refine ⟨?_, Or.inr (Nat.le_succ _)⟩
      simp)
  refine (HF.out _ _ _ x1 m1).mono ?_
  rintro e w2 ⟨rfl, m2⟩
  clear HF m1 HP
  have q1 : Blk w2 w.heap.size 76 [.int .i64 k, .int .i64 t, .int .i64 a, .int .u64 0, .int .u64 n, .bool false] := (m2.keptQ _ (Or.inr (Or.inl rfl))).trans p1
  have q2 : Blk w2 (w.heap.size + 1) 76 [.int .i64 0, .int .i64 0, .int .i64 0, .int .u64 0, .int .u64 0, .bool false] := by
    have := (m2.keptQ (w.heap.size + 1) (Or.inr (Or.inr rfl)))
    unfold Blk
    rw [this]
    have := p2
    unfold Blk at this
    simpa using this
  have hb2 : ∀ g, Q g → w2.heap[g]? = wb.heap[g]? := fun g hg => (m2.keptQ g (Or.inl hg)).trans ((x1.block g (HH.out.lt.2 g hg)).trans (HH.out.keptQ g hg))
  have M2 := Lib.hid m2
  have HB := Lib.hid hb2
  clear hb2 m2
  have hs1 := q1.lt
  have hs2 := q2.lt
  have hs3 : ¬ w.heap.size = w2.heap.size := by omega
  have hs4 : ¬ w.heap.size + 1 = w2.heap.size := by omega
  have HW := Lib.hid (Nat.le_of_lt (show w.heap.size < w2.heap.size from hs1))
  clear p1 p2 x1
  have X1 := Lib.hid q1
  have X2 := Lib.hid q2
  have hk : w2.cell? ⟨w.heap.size, 0, none⟩ = some (.int .i64 k) := q1.cell 0
  have ht : w2.cell? ⟨w.heap.size, 1, none⟩ = some (.int .i64 t) := q1.cell 1
  have ha : w2.cell? ⟨w.heap.size, 2, none⟩ = some (.int .i64 a) := q1.cell 2
  have ho : w2.cell? ⟨w.heap.size, 3, none⟩ = some (.int .u64 0) := q1.cell 3
  have hn : w2.cell? ⟨w.heap.size, 4, none⟩ = some (.int .u64 n) := q1.cell 4
  have hd : w2.cell? ⟨w.heap.size, 5, none⟩ = some (.bool false) := q1.cell 5
  have f3 : w2.frozen? ⟨w.heap.size, 3, none⟩ = false := q1.frozen 3
  have f5 : w2.frozen? ⟨w.heap.size, 5, none⟩ = false := q1.frozen 5
  clear q1 q2
  go_wp2_with fail
  have fr3 : Fr (fun g => g = w.heap.size) w2 ((w2.setCell ⟨w.heap.size, 3, none⟩ (.int .u64 y)).setCell ⟨w.heap.size, 5, none⟩ (.bool d)) := Fr.setCell (S := fun g => g = w.heap.size) (p := ⟨w.heap.size, 5, none⟩) (Fr.setCell (S := fun g => g = w.heap.size) (p := ⟨w.heap.size, 3, none⟩) (Fr.refl _ w2) (Or.inl rfl) _) (Or.inl rfl) _
  have m3 := M2.out.turn fr3 (fun g hg => Or.inr (Or.inl hg)) (fun g hg => by rw [hg]; exact HH.out.lt.1.size)
  have r1 := (X1.out.set 3 (.int .u64 y)).set 5 (.bool d)
  have r2 := X2.out.fr fr3 (by omega)
  have hb3 : ∀ g, Q g → ((w2.setCell ⟨w.heap.size, 3, none⟩ (.int .u64 y)).setCell ⟨w.heap.size, 5, none⟩ (.bool d)).heap[g]? = wb.heap[g]? := fun g hg => (fr3.block g (Nat.lt_of_lt_of_le (HH.out.lt.2 g hg) HW.out) (by have := HH.out.lt.2 g hg; omega)).trans (HB.out g hg)
  refine (m3.note_ok ⟨k, t, a, y, n, d⟩ false k0 k1 b0 b1).mono ?_
  rintro e w4 ⟨⟨u, rfl⟩, m4⟩
  clear hk ht ha ho hn hd f3 f5 hs1 hs2 hs3 hs4
  have q1 : Blk w4 w.heap.size 76 [.int .i64 k, .int .i64 t, .int .i64 a, .int .u64 y, .int .u64 n, .bool d] := (m4.keptQ _ (Or.inr (Or.inl rfl))).trans r1
  have q2 : Blk w4 (w.heap.size + 1) 76 [.int .i64 0, .int .i64 0, .int .i64 0, .int .u64 0, .int .u64 0, .bool false] := (m4.keptQ _ (Or.inr (Or.inr rfl))).trans r2
  have hb4 : ∀ g, Q g → w4.heap[g]? = wb.heap[g]? := fun g hg => (m4.keptQ g (Or.inl hg)).trans (hb3 g hg)
  have M4 := Lib.hid m4
  have HB4 := Lib.hid hb4
  clear hb4 m4 hb3 r1 r2 m3 fr3 HB M2 X1 X2
  have hs1 := q1.lt
  have hs2 := q2.lt
  have g0 : w4.cell? ⟨w.heap.size, 0, none⟩ = some (.int .i64 k) := q1.cell 0
  have g1 : w4.cell? ⟨w.heap.size, 1, none⟩ = some (.int .i64 t) := q1.cell 1
  have g2 : w4.cell? ⟨w.heap.size, 2, none⟩ = some (.int .i64 a) := q1.cell 2
  have g3 : w4.cell? ⟨w.heap.size, 3, none⟩ = some (.int .u64 y) := q1.cell 3
  have g4 : w4.cell? ⟨w.heap.size, 4, none⟩ = some (.int .u64 n) := q1.cell 4
  have g5 : w4.cell? ⟨w.heap.size, 5, none⟩ = some (.bool d) := q1.cell 5
  have k00 : w4.cell? ⟨w.heap.size + 1, 0, none⟩ = some (.int .i64 0) := q2.cell 0
  have k01 : w4.cell? ⟨w.heap.size + 1, 1, none⟩ = some (.int .i64 0) := q2.cell 1
  have k02 : w4.cell? ⟨w.heap.size + 1, 2, none⟩ = some (.int .i64 0) := q2.cell 2
  have k03 : w4.cell? ⟨w.heap.size + 1, 3, none⟩ = some (.int .u64 0) := q2.cell 3
  have k04 : w4.cell? ⟨w.heap.size + 1, 4, none⟩ = some (.int .u64 0) := q2.cell 4
  have k05 : w4.cell? ⟨w.heap.size + 1, 5, none⟩ = some (.bool false) := q2.cell 5
  have f0 : w4.frozen? ⟨w.heap.size + 1, 0, none⟩ = false := q2.frozen 0
  have f1 : w4.frozen? ⟨w.heap.size + 1, 1, none⟩ = false := q2.frozen 1
  have f2 : w4.frozen? ⟨w.heap.size + 1, 2, none⟩ = false := q2.frozen 2
  have f3 : w4.frozen? ⟨w.heap.size + 1, 3, none⟩ = false := q2.frozen 3
  have f4 : w4.frozen? ⟨w.heap.size + 1, 4, none⟩ = false := q2.frozen 4
  have f5 : w4.frozen? ⟨w.heap.size + 1, 5, none⟩ = false := q2.frozen 5
  have Q2 := Lib.hid q2
  clear q1 q2
  go_wp2_with fail
  have fr5 : Fr (fun g => g = w.heap.size + 1) w4 ((((((w4.setCell ⟨w.heap.size + 1, 0, none⟩ (.int .i64 k)).setCell ⟨w.heap.size + 1, 1, none⟩ (.int .i64 t)).setCell ⟨w.heap.size + 1, 2, none⟩ (.int .i64 a)).setCell ⟨w.heap.size + 1, 3, none⟩ (.int .u64 y)).setCell ⟨w.heap.size + 1, 4, none⟩ (.int .u64 n)).setCell ⟨w.heap.size + 1, 5, none⟩ (.bool d)) := (Fr.setCell (p := ⟨w.heap.size + 1, 5, none⟩) (Fr.setCell (p := ⟨w.heap.size + 1, 4, none⟩) (Fr.setCell (p := ⟨w.heap.size + 1, 3, none⟩) (Fr.setCell (p := ⟨w.heap.size + 1, 2, none⟩) (Fr.setCell (p := ⟨w.heap.size + 1, 1, none⟩) (Fr.setCell (p := ⟨w.heap.size + 1, 0, none⟩) (Fr.refl (fun g => g = w.heap.size + 1) w4) (Or.inl rfl) (.int .i64 k)) (Or.inl rfl) (.int .i64 t)) (Or.inl rfl) (.int .i64 a)) (Or.inl rfl) (.int .u64 y)) (Or.inl rfl) (.int .u64 n)) (Or.inl rfl) (.bool d))
  have b5 : Blk ((((((w4.setCell ⟨w.heap.size + 1, 0, none⟩ (.int .i64 k)).setCell ⟨w.heap.size + 1, 1, none⟩ (.int .i64 t)).setCell ⟨w.heap.size + 1, 2, none⟩ (.int .i64 a)).setCell ⟨w.heap.size + 1, 3, none⟩ (.int .u64 y)).setCell ⟨w.heap.size + 1, 4, none⟩ (.int .u64 n)).setCell ⟨w.heap.size + 1, 5, none⟩ (.bool d)) (w.heap.size + 1) 76 [.int .i64 k, .int .i64 t, .int .i64 a, .int .u64 y, .int .u64 n, .bool d] := ((((((Q2.out.set 0 (.int .i64 k)).set 1 (.int .i64 t)).set 2 (.int .i64 a)).set 3 (.int .u64 y)).set 4 (.int .u64 n)).set 5 (.bool d))
  have m5 := (M4.out.turn fr5 (fun g hg => Or.inr (Or.inr hg)) (fun g hg => by rw [hg]; exact Nat.le_succ_of_le HH.out.lt.1.size)).less (Q' := Q) (wb' := wb) (fun g hg => Or.inl hg) (fun g hg => (fr5.block g (Nat.lt_of_lt_of_le (HH.out.lt.2 g hg) (by omega)) (by have := HH.out.lt.2 g hg; omega)).trans (HB4.out g hg))
  clear fr5 Q2 HB4 M4 g0 g1 g2 g3 g4 g5 k00 k01 k02 k03 k04 k05 f0 f1 f2 f3 f4 f5
  generalize ((((((w4.setCell ⟨w.heap.size + 1, 0, none⟩ (.int .i64 k)).setCell ⟨w.heap.size + 1, 1, none⟩ (.int .i64 t)).setCell ⟨w.heap.size + 1, 2, none⟩ (.int .i64 a)).setCell ⟨w.heap.size + 1, 3, none⟩ (.int .u64 y)).setCell ⟨w.heap.size + 1, 4, none⟩ (.int .u64 n)).setCell ⟨w.heap.size + 1, 5, none⟩ (.bool d)) = w5 at *
  have d0 := b5.cell 0
  have d1 := b5.cell 1
  have d2 := b5.cell 2
  have d3 := b5.cell 3
  have d4 := b5.cell 4
  have d5 := b5.cell 5
  exact bodyPost_ret (v := .agg #[.int .i64 k, .int .i64 t, .int .i64 a, .int .u64 y, .int .u64 n, .bool d]) (by simp [results, Tryz.results49, go_sem, d0, d1, d2, d3, d4, d5]) rfl ⟨rfl, m5⟩
set_option maxRecDepth 100000 in
set_option maxHeartbeats 1000000 in
/-- An access to a word that there is: the function that is handed in turns the memory to s1, and tells d. -/
theorem IsMem.touchX_yes (h : IsMem Q wb w0 w gm dv pv s) (k t a n : Int) (c0 : Value) (c1 : Value) (c2 : Value) (c3 : Value) (d : Bool) (s1 : MSt) (h0 : -9223372036854775808 ≤ a) (h1 : a < 9223372036854775808) (hp : peekB s a = true)
    (k0 : 0 ≤ s1.clock) (k1 : s1.clock ≤ 1000000000) (b0 : 0 ≤ s1.bad) (b1 : s1.bad ≤ 1000000000)
    (hf : ∀ (Q' : Nat → Prop) (wb' W : World), Ext w W → IsMem Q' wb' w0 W gm dv pv s → Calls Tryz.prog 119 #[.int .u64 (peekV s a), c0, c1, c2, c3] W fun e w' => e = .returned (.bool d) ∧ IsMem Q' wb' w0 w' gm dv pv s1) :
    Calls Tryz.prog 49 #[.pointer (some ⟨gm, 0, none⟩), .agg #[.int .i64 k, .int .i64 t, .int .i64 a, .int .u64 0, .int .u64 n, .bool false], .func (.func 119) #[] #[c0, c1, c2, c3]] w
      fun e w' => e = .returned (.agg #[.int .i64 k, .int .i64 t, .int .i64 a, .int .u64 (peekV s a), .int .u64 n, .bool d]) ∧ IsMem Q wb w0 w' gm dv pv (s1.note ⟨k, t, a, peekV s a, n, d⟩ false) := by
  have HP := Lib.hid (fun (W : World) (x : Ext w W) => (h.ext x).peek a h0 h1)
  rw [hp] at HP
  have HF := Lib.hid hf
  have HH := Lib.hid h
  clear h hf hp
  generalize peekV s a = y at *
  go_enter Tryz.func49, Tryz.ntmps49
  go_wp2_with fail
  refine (HP.out _ (by exact ext2 w _ _)).mono ?_
  rintro e w' ⟨rfl, rfl⟩
  have x1 := ext2 w (.cells #[.int .i64 k, .int .i64 t, .int .i64 a, .int .u64 0, .int .u64 n, .bool false] 76) (.cells #[.int .i64 0, .int .i64 0, .int .i64 0, .int .u64 0, .int .u64 0, .bool false] 76)
  have p1 := (Blk.new w 76 [.int .i64 k, .int .i64 t, .int .i64 a, .int .u64 0, .int .u64 n, .bool false]).ext ((Ext.refl _).alloc (.cells #[.int .i64 0, .int .i64 0, .int .i64 0, .int .u64 0, .int .u64 0, .bool false] 76))
  have p2 := Blk.new (w.alloc (.cells #[.int .i64 k, .int .i64 t, .int .i64 a, .int .u64 0, .int .u64 n, .bool false] 76)) 76 [.int .i64 0, .int .i64 0, .int .i64 0, .int .u64 0, .int .u64 0, .bool false]
  go_wp2_with fail
  have m1 : IsMem (fun g => Q g ∨ g = w.heap.size ∨ g = w.heap.size + 1) _ w0 _ gm dv pv s := HH.out.hold x1 (fun g hg => by
    rcases hg with hg | rfl | rfl
    · exact ⟨Nat.lt_of_lt_of_le (HH.out.lt.2 g hg) x1.size, Or.inl hg⟩
    · exact ⟨p1.lt, Or.inr (Nat.le_refl _)⟩
    · refine ⟨?_, Or.inr (Nat.le_succ _)⟩
      simp)
  refine (HF.out _ _ _ x1 m1).mono ?_
  rintro e w2 ⟨rfl, m2⟩
  clear HF m1 HP
  have q1 : Blk w2 w.heap.size 76 [.int .i64 k, .int .i64 t, .int .i64 a, .int .u64 0, .int .u64 n, .bool false] := (m2.keptQ _ (Or.inr (Or.inl rfl))).trans p1
  have q2 : Blk w2 (w.heap.size + 1) 76 [.int .i64 0, .int .i64 0, .int .i64 0, .int .u64 0, .int .u64 0, .bool false] := by
    have := (m2.keptQ (w.heap.size + 1) (Or.inr (Or.inr rfl)))
    unfold Blk
    rw [this]
    have := p2
    unfold Blk at this
    simpa using this
  have hb2 : ∀ g, Q g → w2.heap[g]? = wb.heap[g]? := fun g hg => (m2.keptQ g (Or.inl hg)).trans ((x1.block g (HH.out.lt.2 g hg)).trans (HH.out.keptQ g hg))
  have M2 := Lib.hid m2
  have HB := Lib.hid hb2
  clear hb2 m2
  have hs1 := q1.lt
  have hs2 := q2.lt
  have hs3 : ¬ w.heap.size = w2.heap.size := by omega
  have hs4 : ¬ w.heap.size + 1 = w2.heap.size := by omega
  have HW := Lib.hid (Nat.le_of_lt (show w.heap.size < w2.heap.size from hs1))
  clear p1 p2 x1
  have X1 := Lib.hid q1
  have X2 := Lib.hid q2
  have hk : w2.cell? ⟨w.heap.size, 0, none⟩ = some (.int .i64 k) := q1.cell 0
  have ht : w2.cell? ⟨w.heap.size, 1, none⟩ = some (.int .i64 t) := q1.cell 1
  have ha : w2.cell? ⟨w.heap.size, 2, none⟩ = some (.int .i64 a) := q1.cell 2
  have ho : w2.cell? ⟨w.heap.size, 3, none⟩ = some (.int .u64 0) := q1.cell 3
  have hn : w2.cell? ⟨w.heap.size, 4, none⟩ = some (.int .u64 n) := q1.cell 4
  have hd : w2.cell? ⟨w.heap.size, 5, none⟩ = some (.bool false) := q1.cell 5
  have f3 : w2.frozen? ⟨w.heap.size, 3, none⟩ = false := q1.frozen 3
  have f5 : w2.frozen? ⟨w.heap.size, 5, none⟩ = false := q1.frozen 5
  clear q1 q2
  go_wp2_with fail
  have fr3 : Fr (fun g => g = w.heap.size) w2 ((w2.setCell ⟨w.heap.size, 3, none⟩ (.int .u64 y)).setCell ⟨w.heap.size, 5, none⟩ (.bool d)) := Fr.setCell (S := fun g => g = w.heap.size) (p := ⟨w.heap.size, 5, none⟩) (Fr.setCell (S := fun g => g = w.heap.size) (p := ⟨w.heap.size, 3, none⟩) (Fr.refl _ w2) (Or.inl rfl) _) (Or.inl rfl) _
  have m3 := M2.out.turn fr3 (fun g hg => Or.inr (Or.inl hg)) (fun g hg => by rw [hg]; exact HH.out.lt.1.size)
  have r1 := (X1.out.set 3 (.int .u64 y)).set 5 (.bool d)
  have r2 := X2.out.fr fr3 (by omega)
  have hb3 : ∀ g, Q g → ((w2.setCell ⟨w.heap.size, 3, none⟩ (.int .u64 y)).setCell ⟨w.heap.size, 5, none⟩ (.bool d)).heap[g]? = wb.heap[g]? := fun g hg => (fr3.block g (Nat.lt_of_lt_of_le (HH.out.lt.2 g hg) HW.out) (by have := HH.out.lt.2 g hg; omega)).trans (HB.out g hg)
  refine (m3.note_ok ⟨k, t, a, y, n, d⟩ false k0 k1 b0 b1).mono ?_
  rintro e w4 ⟨⟨u, rfl⟩, m4⟩
  clear hk ht ha ho hn hd f3 f5 hs1 hs2 hs3 hs4
  have q1 : Blk w4 w.heap.size 76 [.int .i64 k, .int .i64 t, .int .i64 a, .int .u64 y, .int .u64 n, .bool d] := (m4.keptQ _ (Or.inr (Or.inl rfl))).trans r1
  have q2 : Blk w4 (w.heap.size + 1) 76 [.int .i64 0, .int .i64 0, .int .i64 0, .int .u64 0, .int .u64 0, .bool false] := (m4.keptQ _ (Or.inr (Or.inr rfl))).trans r2
  have hb4 : ∀ g, Q g → w4.heap[g]? = wb.heap[g]? := fun g hg => (m4.keptQ g (Or.inl hg)).trans (hb3 g hg)
  have M4 := Lib.hid m4
  have HB4 := Lib.hid hb4
  clear hb4 m4 hb3 r1 r2 m3 fr3 HB M2 X1 X2
  have hs1 := q1.lt
  have hs2 := q2.lt
  have g0 : w4.cell? ⟨w.heap.size, 0, none⟩ = some (.int .i64 k) := q1.cell 0
  have g1 : w4.cell? ⟨w.heap.size, 1, none⟩ = some (.int .i64 t) := q1.cell 1
  have g2 : w4.cell? ⟨w.heap.size, 2, none⟩ = some (.int .i64 a) := q1.cell 2
  have g3 : w4.cell? ⟨w.heap.size, 3, none⟩ = some (.int .u64 y) := q1.cell 3
  have g4 : w4.cell? ⟨w.heap.size, 4, none⟩ = some (.int .u64 n) := q1.cell 4
  have g5 : w4.cell? ⟨w.heap.size, 5, none⟩ = some (.bool d) := q1.cell 5
  have k00 : w4.cell? ⟨w.heap.size + 1, 0, none⟩ = some (.int .i64 0) := q2.cell 0
  have k01 : w4.cell? ⟨w.heap.size + 1, 1, none⟩ = some (.int .i64 0) := q2.cell 1
  have k02 : w4.cell? ⟨w.heap.size + 1, 2, none⟩ = some (.int .i64 0) := q2.cell 2
  have k03 : w4.cell? ⟨w.heap.size + 1, 3, none⟩ = some (.int .u64 0) := q2.cell 3
  have k04 : w4.cell? ⟨w.heap.size + 1, 4, none⟩ = some (.int .u64 0) := q2.cell 4
  have k05 : w4.cell? ⟨w.heap.size + 1, 5, none⟩ = some (.bool false) := q2.cell 5
  have f0 : w4.frozen? ⟨w.heap.size + 1, 0, none⟩ = false := q2.frozen 0
  have f1 : w4.frozen? ⟨w.heap.size + 1, 1, none⟩ = false := q2.frozen 1
  have f2 : w4.frozen? ⟨w.heap.size + 1, 2, none⟩ = false := q2.frozen 2
  have f3 : w4.frozen? ⟨w.heap.size + 1, 3, none⟩ = false := q2.frozen 3
  have f4 : w4.frozen? ⟨w.heap.size + 1, 4, none⟩ = false := q2.frozen 4
  have f5 : w4.frozen? ⟨w.heap.size + 1, 5, none⟩ = false := q2.frozen 5
  have Q2 := Lib.hid q2
  clear q1 q2
  go_wp2_with fail
  have fr5 : Fr (fun g => g = w.heap.size + 1) w4 ((((((w4.setCell ⟨w.heap.size + 1, 0, none⟩ (.int .i64 k)).setCell ⟨w.heap.size + 1, 1, none⟩ (.int .i64 t)).setCell ⟨w.heap.size + 1, 2, none⟩ (.int .i64 a)).setCell ⟨w.heap.size + 1, 3, none⟩ (.int .u64 y)).setCell ⟨w.heap.size + 1, 4, none⟩ (.int .u64 n)).setCell ⟨w.heap.size + 1, 5, none⟩ (.bool d)) := (Fr.setCell (p := ⟨w.heap.size + 1, 5, none⟩) (Fr.setCell (p := ⟨w.heap.size + 1, 4, none⟩) (Fr.setCell (p := ⟨w.heap.size + 1, 3, none⟩) (Fr.setCell (p := ⟨w.heap.size + 1, 2, none⟩) (Fr.setCell (p := ⟨w.heap.size + 1, 1, none⟩) (Fr.setCell (p := ⟨w.heap.size + 1, 0, none⟩) (Fr.refl (fun g => g = w.heap.size + 1) w4) (Or.inl rfl) (.int .i64 k)) (Or.inl rfl) (.int .i64 t)) (Or.inl rfl) (.int .i64 a)) (Or.inl rfl) (.int .u64 y)) (Or.inl rfl) (.int .u64 n)) (Or.inl rfl) (.bool d))
  have b5 : Blk ((((((w4.setCell ⟨w.heap.size + 1, 0, none⟩ (.int .i64 k)).setCell ⟨w.heap.size + 1, 1, none⟩ (.int .i64 t)).setCell ⟨w.heap.size + 1, 2, none⟩ (.int .i64 a)).setCell ⟨w.heap.size + 1, 3, none⟩ (.int .u64 y)).setCell ⟨w.heap.size + 1, 4, none⟩ (.int .u64 n)).setCell ⟨w.heap.size + 1, 5, none⟩ (.bool d)) (w.heap.size + 1) 76 [.int .i64 k, .int .i64 t, .int .i64 a, .int .u64 y, .int .u64 n, .bool d] := ((((((Q2.out.set 0 (.int .i64 k)).set 1 (.int .i64 t)).set 2 (.int .i64 a)).set 3 (.int .u64 y)).set 4 (.int .u64 n)).set 5 (.bool d))
  have m5 := (M4.out.turn fr5 (fun g hg => Or.inr (Or.inr hg)) (fun g hg => by rw [hg]; exact Nat.le_succ_of_le HH.out.lt.1.size)).less (Q' := Q) (wb' := wb) (fun g hg => Or.inl hg) (fun g hg => (fr5.block g (Nat.lt_of_lt_of_le (HH.out.lt.2 g hg) (by omega)) (by have := HH.out.lt.2 g hg; omega)).trans (HB4.out g hg))
  clear fr5 Q2 HB4 M4 g0 g1 g2 g3 g4 g5 k00 k01 k02 k03 k04 k05 f0 f1 f2 f3 f4 f5
  generalize ((((((w4.setCell ⟨w.heap.size + 1, 0, none⟩ (.int .i64 k)).setCell ⟨w.heap.size + 1, 1, none⟩ (.int .i64 t)).setCell ⟨w.heap.size + 1, 2, none⟩ (.int .i64 a)).setCell ⟨w.heap.size + 1, 3, none⟩ (.int .u64 y)).setCell ⟨w.heap.size + 1, 4, none⟩ (.int .u64 n)).setCell ⟨w.heap.size + 1, 5, none⟩ (.bool d)) = w5 at *
  have d0 := b5.cell 0
  have d1 := b5.cell 1
  have d2 := b5.cell 2
  have d3 := b5.cell 3
  have d4 := b5.cell 4
  have d5 := b5.cell 5
  exact bodyPost_ret (v := .agg #[.int .i64 k, .int .i64 t, .int .i64 a, .int .u64 y, .int .u64 n, .bool d]) (by simp [results, Tryz.results49, go_sem, d0, d1, d2, d3, d4, d5]) rfl ⟨rfl, m5⟩
set_option maxRecDepth 100000 in
set_option maxHeartbeats 1000000 in
/-- An access to a word that there is not is bad, whatever is handed in. -/
theorem IsMem.touch_no (h : IsMem Q wb w0 w gm dv pv s) (k t a n : Int) (f : Value) (h0 : -9223372036854775808 ≤ a) (h1 : a < 9223372036854775808) (hp : peekB s a = false)
    (k0 : 0 ≤ s.clock) (k1 : s.clock ≤ 1000000000) (b0 : 0 ≤ s.bad) (b1 : s.bad ≤ 1000000000) :
    Calls Tryz.prog 49 #[.pointer (some ⟨gm, 0, none⟩), .agg #[.int .i64 k, .int .i64 t, .int .i64 a, .int .u64 0, .int .u64 n, .bool false], f] w
      fun e w' => e = .returned (.agg #[.int .i64 k, .int .i64 t, .int .i64 a, .int .u64 0, .int .u64 n, .bool false]) ∧ IsMem Q wb w0 w' gm dv pv (s.note ⟨k, t, a, 0, n, false⟩ true) := by
  have HP := Lib.hid (fun (W : World) (x : Ext w W) => (h.ext x).peek a h0 h1)
  rw [hp] at HP
  have HH := Lib.hid h
  clear h hp
  generalize peekV s a = y at *
  go_enter Tryz.func49, Tryz.ntmps49
  go_wp2_with fail
  refine (HP.out _ (by exact ext2 w _ _)).mono ?_
  rintro e w' ⟨rfl, rfl⟩
  have x1 := ext2 w (.cells #[.int .i64 k, .int .i64 t, .int .i64 a, .int .u64 0, .int .u64 n, .bool false] 76) (.cells #[.int .i64 0, .int .i64 0, .int .i64 0, .int .u64 0, .int .u64 0, .bool false] 76)
  have p1 := (Blk.new w 76 [.int .i64 k, .int .i64 t, .int .i64 a, .int .u64 0, .int .u64 n, .bool false]).ext ((Ext.refl _).alloc (.cells #[.int .i64 0, .int .i64 0, .int .i64 0, .int .u64 0, .int .u64 0, .bool false] 76))
  have p2 := Blk.new (w.alloc (.cells #[.int .i64 k, .int .i64 t, .int .i64 a, .int .u64 0, .int .u64 n, .bool false] 76)) 76 [.int .i64 0, .int .i64 0, .int .i64 0, .int .u64 0, .int .u64 0, .bool false]
  go_wp2_with fail
  have m1 : IsMem (fun g => Q g ∨ g = w.heap.size ∨ g = w.heap.size + 1) _ w0 _ gm dv pv s := HH.out.hold x1 (fun g hg => by
    rcases hg with hg | rfl | rfl
    · exact ⟨Nat.lt_of_lt_of_le (HH.out.lt.2 g hg) x1.size, Or.inl hg⟩
    · exact ⟨p1.lt, Or.inr (Nat.le_refl _)⟩
    · refine ⟨?_, Or.inr (Nat.le_succ _)⟩
      simp)
  refine (m1.note_ok ⟨k, t, a, 0, n, false⟩ true k0 k1 b0 b1).mono ?_
  rintro e w4 ⟨⟨u, rfl⟩, m4⟩
  have q1 : Blk w4 w.heap.size 76 [.int .i64 k, .int .i64 t, .int .i64 a, .int .u64 0, .int .u64 n, .bool false] := (m4.keptQ _ (Or.inr (Or.inl rfl))).trans p1
  have q2 : Blk w4 (w.heap.size + 1) 76 [.int .i64 0, .int .i64 0, .int .i64 0, .int .u64 0, .int .u64 0, .bool false] := by
    have := (m4.keptQ (w.heap.size + 1) (Or.inr (Or.inr rfl)))
    unfold Blk
    rw [this]
    have := p2
    unfold Blk at this
    simpa using this
  have hb4 : ∀ g, Q g → w4.heap[g]? = wb.heap[g]? := fun g hg => (m4.keptQ g (Or.inl hg)).trans ((x1.block g (HH.out.lt.2 g hg)).trans (HH.out.keptQ g hg))
  have M4 := Lib.hid m4
  have HB4 := Lib.hid hb4
  clear hb4 m4 m1 x1 p1 p2 HP
  have hs1 := q1.lt
  have hs2 := q2.lt
  have g0 : w4.cell? ⟨w.heap.size, 0, none⟩ = some (.int .i64 k) := q1.cell 0
  have g1 : w4.cell? ⟨w.heap.size, 1, none⟩ = some (.int .i64 t) := q1.cell 1
  have g2 : w4.cell? ⟨w.heap.size, 2, none⟩ = some (.int .i64 a) := q1.cell 2
  have g3 : w4.cell? ⟨w.heap.size, 3, none⟩ = some (.int .u64 0) := q1.cell 3
  have g4 : w4.cell? ⟨w.heap.size, 4, none⟩ = some (.int .u64 n) := q1.cell 4
  have g5 : w4.cell? ⟨w.heap.size, 5, none⟩ = some (.bool false) := q1.cell 5
  have k00 : w4.cell? ⟨w.heap.size + 1, 0, none⟩ = some (.int .i64 0) := q2.cell 0
  have k01 : w4.cell? ⟨w.heap.size + 1, 1, none⟩ = some (.int .i64 0) := q2.cell 1
  have k02 : w4.cell? ⟨w.heap.size + 1, 2, none⟩ = some (.int .i64 0) := q2.cell 2
  have k03 : w4.cell? ⟨w.heap.size + 1, 3, none⟩ = some (.int .u64 0) := q2.cell 3
  have k04 : w4.cell? ⟨w.heap.size + 1, 4, none⟩ = some (.int .u64 0) := q2.cell 4
  have k05 : w4.cell? ⟨w.heap.size + 1, 5, none⟩ = some (.bool false) := q2.cell 5
  have f0 : w4.frozen? ⟨w.heap.size + 1, 0, none⟩ = false := q2.frozen 0
  have f1 : w4.frozen? ⟨w.heap.size + 1, 1, none⟩ = false := q2.frozen 1
  have f2 : w4.frozen? ⟨w.heap.size + 1, 2, none⟩ = false := q2.frozen 2
  have f3 : w4.frozen? ⟨w.heap.size + 1, 3, none⟩ = false := q2.frozen 3
  have f4 : w4.frozen? ⟨w.heap.size + 1, 4, none⟩ = false := q2.frozen 4
  have f5 : w4.frozen? ⟨w.heap.size + 1, 5, none⟩ = false := q2.frozen 5
  have Q2 := Lib.hid q2
  clear q1 q2
  go_wp2_with fail
  have fr5 : Fr (fun g => g = w.heap.size + 1) w4 ((((((w4.setCell ⟨w.heap.size + 1, 0, none⟩ (.int .i64 k)).setCell ⟨w.heap.size + 1, 1, none⟩ (.int .i64 t)).setCell ⟨w.heap.size + 1, 2, none⟩ (.int .i64 a)).setCell ⟨w.heap.size + 1, 3, none⟩ (.int .u64 0)).setCell ⟨w.heap.size + 1, 4, none⟩ (.int .u64 n)).setCell ⟨w.heap.size + 1, 5, none⟩ (.bool false)) := (Fr.setCell (p := ⟨w.heap.size + 1, 5, none⟩) (Fr.setCell (p := ⟨w.heap.size + 1, 4, none⟩) (Fr.setCell (p := ⟨w.heap.size + 1, 3, none⟩) (Fr.setCell (p := ⟨w.heap.size + 1, 2, none⟩) (Fr.setCell (p := ⟨w.heap.size + 1, 1, none⟩) (Fr.setCell (p := ⟨w.heap.size + 1, 0, none⟩) (Fr.refl (fun g => g = w.heap.size + 1) w4) (Or.inl rfl) (.int .i64 k)) (Or.inl rfl) (.int .i64 t)) (Or.inl rfl) (.int .i64 a)) (Or.inl rfl) (.int .u64 0)) (Or.inl rfl) (.int .u64 n)) (Or.inl rfl) (.bool false))
  have b5 : Blk ((((((w4.setCell ⟨w.heap.size + 1, 0, none⟩ (.int .i64 k)).setCell ⟨w.heap.size + 1, 1, none⟩ (.int .i64 t)).setCell ⟨w.heap.size + 1, 2, none⟩ (.int .i64 a)).setCell ⟨w.heap.size + 1, 3, none⟩ (.int .u64 0)).setCell ⟨w.heap.size + 1, 4, none⟩ (.int .u64 n)).setCell ⟨w.heap.size + 1, 5, none⟩ (.bool false)) (w.heap.size + 1) 76 [.int .i64 k, .int .i64 t, .int .i64 a, .int .u64 0, .int .u64 n, .bool false] := ((((((Q2.out.set 0 (.int .i64 k)).set 1 (.int .i64 t)).set 2 (.int .i64 a)).set 3 (.int .u64 0)).set 4 (.int .u64 n)).set 5 (.bool false))
  have m5 := (M4.out.turn fr5 (fun g hg => Or.inr (Or.inr hg)) (fun g hg => by rw [hg]; exact Nat.le_succ_of_le HH.out.lt.1.size)).less (Q' := Q) (wb' := wb) (fun g hg => Or.inl hg) (fun g hg => (fr5.block g (Nat.lt_of_lt_of_le (HH.out.lt.2 g hg) (by omega)) (by have := HH.out.lt.2 g hg; omega)).trans (HB4.out g hg))
  clear fr5 Q2 HB4 M4 g0 g1 g2 g3 g4 g5 k00 k01 k02 k03 k04 k05 f0 f1 f2 f3 f4 f5
  generalize ((((((w4.setCell ⟨w.heap.size + 1, 0, none⟩ (.int .i64 k)).setCell ⟨w.heap.size + 1, 1, none⟩ (.int .i64 t)).setCell ⟨w.heap.size + 1, 2, none⟩ (.int .i64 a)).setCell ⟨w.heap.size + 1, 3, none⟩ (.int .u64 0)).setCell ⟨w.heap.size + 1, 4, none⟩ (.int .u64 n)).setCell ⟨w.heap.size + 1, 5, none⟩ (.bool false)) = w5 at *
  have d0 := b5.cell 0
  have d1 := b5.cell 1
  have d2 := b5.cell 2
  have d3 := b5.cell 3
  have d4 := b5.cell 4
  have d5 := b5.cell 5
  exact bodyPost_ret (v := .agg #[.int .i64 k, .int .i64 t, .int .i64 a, .int .u64 0, .int .u64 n, .bool false]) (by simp [results, Tryz.results49, go_sem, d0, d1, d2, d3, d4, d5]) rfl ⟨rfl, m5⟩
end
/-- A memory's state behind a swap, a load, a store; what a swap tells. -/
def MSt.swap (s : MSt) (t a old x : Int) : MSt := if peekB s a = true then (if peekV s a = old then (s.put a x).note ⟨3, t, a, peekV s a, x, true⟩ false else s.note ⟨3, t, a, peekV s a, x, false⟩ false) else s.note ⟨3, t, a, 0, x, false⟩ true
def swapB (s : MSt) (a old : Int) : Bool := peekB s a && decide (peekV s a = old)
def MSt.load (s : MSt) (t a : Int) : MSt := if peekB s a = true then s.note ⟨1, t, a, peekV s a, 0, true⟩ false else s.note ⟨1, t, a, 0, 0, false⟩ true
def MSt.store (s : MSt) (t a x : Int) : MSt := if peekB s a = true then (s.put a x).note ⟨2, t, a, peekV s a, x, true⟩ false else s.note ⟨2, t, a, 0, x, false⟩ true
theorem put_clock (s : MSt) (a x : Int) : (s.put a x).clock = s.clock ∧ (s.put a x).bad = s.bad := by unfold MSt.put; split <;> exact ⟨rfl, rfl⟩
/-- What there is not has no word. -/
theorem peekV_no {s : MSt} {a : Int} (h : peekB s a = false) : peekV s a = 0 := by
  unfold peekB at h
  unfold peekV
  by_cases ha : 0 ≤ a
  · rw [if_pos ha] at h ⊢
    unfold loadV
    rw [if_neg (fun h2 => by simp at h; omega)]
  · rw [if_neg ha] at h ⊢
    rw [List.getD_eq_getElem?_getD, List.getElem?_eq_none (by simp at h; omega)]
    rfl
section
variable {Q : Nat → Prop} {wb w0 w w' : World} {gm : Nat} {dv pv : Value} {s : MSt}
theorem loadF_any (y : Int) (w : World) : Calls Tryz.prog 112 #[.int .u64 y] w fun e w' => e = .returned (.bool true) ∧ w = w' := by
  go_enter Tryz.func112, Tryz.ntmps112
  go_wp2
  go_ret
  exact ⟨rfl, rfl⟩
theorem IsMem.storeF (h : IsMem Q wb w0 w gm dv pv s) (y a x : Int) (p q r : Addr) (h0 : -9223372036854775808 ≤ a) (h1 : a < 9223372036854775808) (hx : 0 ≤ x ∧ x < 18446744073709551616) (hp : peekB s a = true)
    (c1 : w.cell? p = some (.pointer (some ⟨gm, 0, none⟩))) (c2 : w.cell? q = some (.int .i64 a)) (c3 : w.cell? r = some (.int .u64 x)) :
    Calls Tryz.prog 50 #[.int .u64 y, .pointer (some p), .pointer (some q), .pointer (some r)] w fun e w' => e = .returned (.bool true) ∧ IsMem Q wb w0 w' gm dv pv (s.put a x) := by
  have HP := Lib.hid (h.put_ok a x h0 h1 hx hp)
  clear h hp
  go_enter Tryz.func50, Tryz.ntmps50
  go_wp2_with fail
  refine HP.out.mono ?_
  rintro e w' ⟨⟨u, rfl⟩, m⟩
  go_wp2_with fail
  go_ret
  exact ⟨rfl, m⟩
theorem IsMem.swapF (h : IsMem Q wb w0 w gm dv pv s) (y a x : Int) (o p q r : Addr) (h0 : -9223372036854775808 ≤ a) (h1 : a < 9223372036854775808) (hx : 0 ≤ x ∧ x < 18446744073709551616) (hp : peekB s a = true)
    (c0 : w.cell? o = some (.int .u64 y)) (c1 : w.cell? p = some (.pointer (some ⟨gm, 0, none⟩))) (c2 : w.cell? q = some (.int .i64 a)) (c3 : w.cell? r = some (.int .u64 x)) :
    Calls Tryz.prog 119 #[.int .u64 y, .pointer (some o), .pointer (some p), .pointer (some q), .pointer (some r)] w fun e w' => e = .returned (.bool true) ∧ IsMem Q wb w0 w' gm dv pv (s.put a x) := by
  have HP := Lib.hid (h.put_ok a x h0 h1 hx hp)
  clear h hp
  go_enter Tryz.func119, Tryz.ntmps119
  go_wp2_with fail
  refine HP.out.mono ?_
  rintro e w' ⟨⟨u, rfl⟩, m⟩
  go_wp2_with fail
  go_ret
  exact ⟨rfl, m⟩
theorem swapF_no (y z : Int) (o : Addr) (p q r : Value) (hne : ¬ y = z) (w : World) (c0 : w.cell? o = some (.int .u64 z)) :
    Calls Tryz.prog 119 #[.int .u64 y, .pointer (some o), p, q, r] w fun e w' => e = .returned (.bool false) ∧ w = w' := by
  go_enter Tryz.func119, Tryz.ntmps119
  go_wp2
  go_ret
  exact ⟨rfl, rfl⟩
end
end Go.Proofs.YtolengkegjipaaaGreat


/- A memory's calls: Load, Store, Swap, and what is told of a memory. Conditions: those that each theorem names. -/
namespace Go.Proofs.YtolengkegjipaaaGreat
open Go.ChangeShapes Go.WideShapes Go.ChangeAt Go.RowKit
set_option linter.unusedVariables false
/-- Counts that are far below what an int holds. -/
def Calm (s : MSt) : Prop := 0 ≤ s.clock ∧ s.clock ≤ 1000000000 ∧ 0 ≤ s.bad ∧ s.bad ≤ 1000000000
section
variable {Q : Nat → Prop} {wb w0 w w' : World} {gm : Nat} {dv pv : Value} {s : MSt}
theorem memLoad_ok (h : IsMem Q wb w0 w gm dv pv s) (t a : Int) (h0 : -9223372036854775808 ≤ a) (h1 : a < 9223372036854775808) (hc : Calm s) :
    Calls Tryz.prog 101 #[.pointer (some ⟨gm, 0, none⟩), .int .i64 t, .int .i64 a] w fun e w' => e = .returned (.int .u64 (peekV s a)) ∧ IsMem Q wb w0 w' gm dv pv (s.load t a) := by
  have x1 := (Ext.refl w).alloc (.cells #[.int .i64 1, .int .i64 t, .int .i64 a, .int .u64 0, .int .u64 0, .bool false] 76)
  cases hp : peekB s a
  · have HT := Lib.hid ((h.ext x1).touch_no 1 t a 0 (.func (.func 112) #[] #[]) h0 h1 hp hc.1 hc.2.1 hc.2.2.1 hc.2.2.2)
    have e1 : s.load t a = s.note ⟨1, t, a, 0, 0, false⟩ true := by unfold MSt.load; rw [hp]; rfl
    rw [peekV_no hp, e1]
    have hf3 := fun W => fld3 1 t a 0 0 false W
    clear hp e1 h hc x1
    go_enter Tryz.func101, Tryz.ntmps101
    go_wp2_with fail
    refine HT.out.mono ?_
    rintro e w1 ⟨rfl, m⟩
    go_wp2_with fail
    go_ret
    exact ⟨rfl, m⟩
  · have HT := Lib.hid ((h.ext x1).touchL_yes 1 t a 0 true s h0 h1 hp hc.1 hc.2.1 hc.2.2.1 hc.2.2.2 (fun Q' wb' W _ m => (loadF_any _ W).mono fun e w' ⟨he, hw⟩ => ⟨he, by rw [← hw]; exact m⟩))
    have e1 : s.load t a = s.note ⟨1, t, a, peekV s a, 0, true⟩ false := by unfold MSt.load; rw [hp]; rfl
    rw [e1]
    generalize peekV s a = y at *
    have hf3 := fun W => fld3 1 t a y 0 true W
    clear hp e1 h hc x1
    go_enter Tryz.func101, Tryz.ntmps101
    go_wp2_with fail
    refine HT.out.mono ?_
    rintro e w1 ⟨rfl, m⟩
    go_wp2_with fail
    go_ret
    exact ⟨rfl, m⟩
theorem memStore_ok (h : IsMem Q wb w0 w gm dv pv s) (t a x : Int) (h0 : -9223372036854775808 ≤ a) (h1 : a < 9223372036854775808) (hx : 0 ≤ x ∧ x < 18446744073709551616) (hc : Calm s) :
    Calls Tryz.prog 29 #[.pointer (some ⟨gm, 0, none⟩), .int .i64 t, .int .i64 a, .int .u64 x] w fun e w' => (∃ u, e = .returned u) ∧ IsMem Q wb w0 w' gm dv pv (s.store t a x) := by
  have hmf : ∀ (fn : Fn) (first cap : Array Value) (w : World), (Instr.makeFunc fn first cap).run Tryz.prog w = .ok (.func fn first cap) w := fun _ _ _ _ => rfl
  have b0 := Blk.new w 33 [.pointer (some ⟨gm, 0, none⟩)]
  have b1 := Blk.new (w.alloc (.cells #[.pointer (some ⟨gm, 0, none⟩)] 33)) 3 [.int .i64 a]
  have b0 := b0.ext ((Ext.refl _).alloc (.cells #[.int .i64 a] 3))
  have b2 := Blk.new ((w.alloc (.cells #[.pointer (some ⟨gm, 0, none⟩)] 33)).alloc (.cells #[.int .i64 a] 3)) 53 [.int .u64 x]
  have b0 := b0.ext ((Ext.refl _).alloc (.cells #[.int .u64 x] 53))
  have b1 := b1.ext ((Ext.refl _).alloc (.cells #[.int .u64 x] 53))
  have b0 := b0.ext ((Ext.refl _).alloc (.cells #[.int .i64 2, .int .i64 t, .int .i64 a, .int .u64 0, .int .u64 x, .bool false] 76))
  have b1 := b1.ext ((Ext.refl _).alloc (.cells #[.int .i64 2, .int .i64 t, .int .i64 a, .int .u64 0, .int .u64 x, .bool false] 76))
  have b2 := b2.ext ((Ext.refl _).alloc (.cells #[.int .i64 2, .int .i64 t, .int .i64 a, .int .u64 0, .int .u64 x, .bool false] 76))
  have x1 := ((((Ext.refl w).alloc (.cells #[.pointer (some ⟨gm, 0, none⟩)] 33)).alloc (.cells #[.int .i64 a] 3)).alloc (.cells #[.int .u64 x] 53)).alloc (.cells #[.int .i64 2, .int .i64 t, .int .i64 a, .int .u64 0, .int .u64 x, .bool false] 76)
  have k1 : ∀ W, Ext _ W → W.cell? ⟨w.heap.size, 0, none⟩ = some (.pointer (some ⟨gm, 0, none⟩)) := fun W xx => (b0.ext xx).cell 0
  have k2 : ∀ W, Ext _ W → W.cell? ⟨w.heap.size + 1, 0, none⟩ = some (.int .i64 a) := fun W xx => by have := (b1.ext xx).cell 0; simpa using this
  have k3 : ∀ W, Ext _ W → W.cell? ⟨w.heap.size + 1 + 1, 0, none⟩ = some (.int .u64 x) := fun W xx => by have := (b2.ext xx).cell 0; simpa using this
  clear b0 b1 b2
  cases hp : peekB s a
  · have HT := Lib.hid (fun f => (h.ext x1).touch_no 2 t a x f h0 h1 hp hc.1 hc.2.1 hc.2.2.1 hc.2.2.2)
    have e1 : s.store t a x = s.note ⟨2, t, a, 0, x, false⟩ true := by unfold MSt.store; rw [hp]; rfl
    rw [e1]
    clear hp e1 h hc x1 k1 k2 k3
    go_enter Tryz.func29, Tryz.ntmps29
    go_wp2_with fail
    refine (HT.out _).mono ?_
    rintro e w1 ⟨rfl, m⟩
    go_wp2_with fail
    refine bodyPost_end (results_none rfl _ _ _) rfl ?_
    exact ⟨⟨_, rfl⟩, m⟩
  · have HT := Lib.hid ((h.ext x1).touchS_yes 2 t a x (.pointer (some ⟨w.heap.size, 0, none⟩)) (.pointer (some ⟨w.heap.size + 1, 0, none⟩)) (.pointer (some ⟨w.heap.size + 1 + 1, 0, none⟩)) true (s.put a x) h0 h1 hp (by rw [(put_clock s a x).1]; exact hc.1) (by rw [(put_clock s a x).1]; exact hc.2.1) (by rw [(put_clock s a x).2]; exact hc.2.2.1) (by rw [(put_clock s a x).2]; exact hc.2.2.2) (fun Q' wb' W xx m => m.storeF _ a x _ _ _ h0 h1 hx hp (k1 W xx) (k2 W xx) (k3 W xx)))
    have e1 : s.store t a x = (s.put a x).note ⟨2, t, a, peekV s a, x, true⟩ false := by unfold MSt.store; rw [hp]; rfl
    rw [e1]
    generalize peekV s a = y at *
    clear hp e1 h hc x1 k1 k2 k3
    go_enter Tryz.func29, Tryz.ntmps29
    go_wp2_with fail
    refine HT.out.mono ?_
    rintro e w1 ⟨rfl, m⟩
    go_wp2_with fail
    refine bodyPost_end (results_none rfl _ _ _) rfl ?_
    exact ⟨⟨_, rfl⟩, m⟩
set_option maxRecDepth 100000 in
set_option maxHeartbeats 1000000 in
theorem memSwap_ok (h : IsMem Q wb w0 w gm dv pv s) (t a z x : Int) (h0 : -9223372036854775808 ≤ a) (h1 : a < 9223372036854775808) (hx : 0 ≤ x ∧ x < 18446744073709551616) (hc : Calm s) :
    Calls Tryz.prog 106 #[.pointer (some ⟨gm, 0, none⟩), .int .i64 t, .int .i64 a, .int .u64 z, .int .u64 x] w fun e w' => e = .returned (.bool (swapB s a z)) ∧ IsMem Q wb w0 w' gm dv pv (s.swap t a z x) := by
  have hmf : ∀ (fn : Fn) (first cap : Array Value) (w : World), (Instr.makeFunc fn first cap).run Tryz.prog w = .ok (.func fn first cap) w := fun _ _ _ _ => rfl
  have b0 := Blk.new w 33 [.pointer (some ⟨gm, 0, none⟩)]
  have b1 := Blk.new (w.alloc (.cells #[.pointer (some ⟨gm, 0, none⟩)] 33)) 3 [.int .i64 a]
  have b0 := b0.ext ((Ext.refl _).alloc (.cells #[.int .i64 a] 3))
  have b2 := Blk.new ((w.alloc (.cells #[.pointer (some ⟨gm, 0, none⟩)] 33)).alloc (.cells #[.int .i64 a] 3)) 53 [.int .u64 z]
  have b0 := b0.ext ((Ext.refl _).alloc (.cells #[.int .u64 z] 53))
  have b1 := b1.ext ((Ext.refl _).alloc (.cells #[.int .u64 z] 53))
  have b3 := Blk.new (((w.alloc (.cells #[.pointer (some ⟨gm, 0, none⟩)] 33)).alloc (.cells #[.int .i64 a] 3)).alloc (.cells #[.int .u64 z] 53)) 53 [.int .u64 x]
  have b0 := b0.ext ((Ext.refl _).alloc (.cells #[.int .u64 x] 53))
  have b1 := b1.ext ((Ext.refl _).alloc (.cells #[.int .u64 x] 53))
  have b2 := b2.ext ((Ext.refl _).alloc (.cells #[.int .u64 x] 53))
  have b0 := b0.ext ((Ext.refl _).alloc (.cells #[.int .i64 3, .int .i64 t, .int .i64 a, .int .u64 0, .int .u64 x, .bool false] 76))
  have b1 := b1.ext ((Ext.refl _).alloc (.cells #[.int .i64 3, .int .i64 t, .int .i64 a, .int .u64 0, .int .u64 x, .bool false] 76))
  have b2 := b2.ext ((Ext.refl _).alloc (.cells #[.int .i64 3, .int .i64 t, .int .i64 a, .int .u64 0, .int .u64 x, .bool false] 76))
  have b3 := b3.ext ((Ext.refl _).alloc (.cells #[.int .i64 3, .int .i64 t, .int .i64 a, .int .u64 0, .int .u64 x, .bool false] 76))
  have x1 := (((((Ext.refl w).alloc (.cells #[.pointer (some ⟨gm, 0, none⟩)] 33)).alloc (.cells #[.int .i64 a] 3)).alloc (.cells #[.int .u64 z] 53)).alloc (.cells #[.int .u64 x] 53)).alloc (.cells #[.int .i64 3, .int .i64 t, .int .i64 a, .int .u64 0, .int .u64 x, .bool false] 76)
  have k1 : ∀ W, Ext _ W → W.cell? ⟨w.heap.size, 0, none⟩ = some (.pointer (some ⟨gm, 0, none⟩)) := fun W xx => (b0.ext xx).cell 0
  have k2 : ∀ W, Ext _ W → W.cell? ⟨w.heap.size + 1, 0, none⟩ = some (.int .i64 a) := fun W xx => by have := (b1.ext xx).cell 0; simpa using this
  have k0 : ∀ W, Ext _ W → W.cell? ⟨w.heap.size + 1 + 1, 0, none⟩ = some (.int .u64 z) := fun W xx => by have := (b2.ext xx).cell 0; simpa using this
  have k3 : ∀ W, Ext _ W → W.cell? ⟨w.heap.size + 1 + 1 + 1, 0, none⟩ = some (.int .u64 x) := fun W xx => by have := (b3.ext xx).cell 0; simpa using this
  clear b0 b1 b2 b3
  cases hp : peekB s a
  · have HT := Lib.hid (fun f => (h.ext x1).touch_no 3 t a x f h0 h1 hp hc.1 hc.2.1 hc.2.2.1 hc.2.2.2)
    have e1 : s.swap t a z x = s.note ⟨3, t, a, 0, x, false⟩ true := by unfold MSt.swap; rw [hp]; rfl
    have e2 : swapB s a z = false := by unfold swapB; rw [hp]; rfl
    rw [e1, e2]
    clear e2
    have hf5 := fun W => fld5 3 t a 0 x false W
    clear hp e1 h hc x1 k0 k1 k2 k3 
    go_enter Tryz.func106, Tryz.ntmps106
    go_wp2_with fail
    refine (HT.out _).mono ?_
    rintro e w1 ⟨rfl, m⟩
    go_wp2_with fail
    go_ret
    exact ⟨rfl, m⟩
  · by_cases hy : peekV s a = z
    · have HT := Lib.hid ((h.ext x1).touchX_yes 3 t a x (.pointer (some ⟨w.heap.size + 1 + 1, 0, none⟩)) (.pointer (some ⟨w.heap.size, 0, none⟩)) (.pointer (some ⟨w.heap.size + 1, 0, none⟩)) (.pointer (some ⟨w.heap.size + 1 + 1 + 1, 0, none⟩)) true (s.put a x) h0 h1 hp (by rw [(put_clock s a x).1]; exact hc.1) (by rw [(put_clock s a x).1]; exact hc.2.1) (by rw [(put_clock s a x).2]; exact hc.2.2.1) (by rw [(put_clock s a x).2]; exact hc.2.2.2) (fun Q' wb' W xx m => m.swapF _ a x _ _ _ _ h0 h1 hx hp (by rw [hy]; exact k0 W xx) (k1 W xx) (k2 W xx) (k3 W xx)))
      have e1 : s.swap t a z x = (s.put a x).note ⟨3, t, a, peekV s a, x, true⟩ false := by unfold MSt.swap; rw [if_pos hp, if_pos hy]
      have e2 : swapB s a z = true := by unfold swapB; rw [hp, hy]; simp
      rw [e1, e2]
      clear e2 hy
      generalize peekV s a = y at *
      have hf5 := fun W => fld5 3 t a y x true W
      clear hp e1 h hc x1 k0 k1 k2 k3 
      go_enter Tryz.func106, Tryz.ntmps106
      go_wp2_with fail
      refine HT.out.mono ?_
      rintro e w1 ⟨rfl, m⟩
      go_wp2_with fail
      go_ret
      exact ⟨rfl, m⟩
    · have HT := Lib.hid ((h.ext x1).touchX_yes 3 t a x (.pointer (some ⟨w.heap.size + 1 + 1, 0, none⟩)) (.pointer (some ⟨w.heap.size, 0, none⟩)) (.pointer (some ⟨w.heap.size + 1, 0, none⟩)) (.pointer (some ⟨w.heap.size + 1 + 1 + 1, 0, none⟩)) false s h0 h1 hp hc.1 hc.2.1 hc.2.2.1 hc.2.2.2 (fun Q' wb' W xx m => (swapF_no _ z _ _ _ _ hy W (k0 W xx)).mono fun e w' ⟨he, hw⟩ => ⟨he, by rw [← hw]; exact m⟩))
      have e1 : s.swap t a z x = s.note ⟨3, t, a, peekV s a, x, false⟩ false := by unfold MSt.swap; rw [if_pos hp, if_neg hy]
      have e2 : swapB s a z = false := by unfold swapB; rw [hp, decide_eq_false hy]; rfl
      rw [e1, e2]
      clear e2 hy
      generalize peekV s a = y at *
      have hf5 := fun W => fld5 3 t a y x false W
      clear hp e1 h hc x1 k0 k1 k2 k3 
      go_enter Tryz.func106, Tryz.ntmps106
      go_wp2_with fail
      refine HT.out.mono ?_
      rintro e w1 ⟨rfl, m⟩
      go_wp2_with fail
      go_ret
      exact ⟨rfl, m⟩
theorem memClock_ok (h : IsMem Q wb w0 w gm dv pv s) : Calls Tryz.prog 103 #[.pointer (some ⟨gm, 0, none⟩)] w fun e w' => e = .returned (.int .i64 s.clock) ∧ w = w' := by
  have c : w.cell? ⟨gm, 2, none⟩ = some (.int .i64 s.clock) := h.blk.cell 2
  clear h
  go_enter Tryz.func103, Tryz.ntmps103
  go_wp2
  go_ret
  exact ⟨rfl, rfl⟩
theorem memDevice_ok (h : IsMem Q wb w0 w gm dv pv s) : Calls Tryz.prog 31 #[.pointer (some ⟨gm, 0, none⟩)] w fun e w' => e = .returned (dv) ∧ w = w' := by
  have c : w.cell? ⟨gm, 0, none⟩ = some (dv) := h.blk.cell 0
  clear h
  go_enter Tryz.func31, Tryz.ntmps31
  go_wp2
  go_ret
  exact ⟨rfl, rfl⟩
end
end Go.Proofs.YtolengkegjipaaaGreat

