/- Layer 8: model.do of a pair that is put, or cut. Conditions: those that each theorem names. -/
import Derived.Test.YthbngenjcgclgaaMod10
namespace Go.Proofs.Ythbngenjcgclgaa
open Go.ChangeShapes Go.WideShapes Go.ChangeAt Go.RowKit
set_option linter.unusedVariables false
set_option maxRecDepth 100000 in
set_option maxHeartbeats 2000000 in
theorem do6_of (w0 w : World) (gs : Nat) (qv sv v : Value) (ps' : List Pr) (a b fa fb : Int) (hp : Bool) (x0 : Ext w0 w) (hg : gs < w.heap.size) (ho : ∀ q, v.ownBlock = some q → q < w.heap.size)
    (HP : ∀ W, Ext w W → Calls Try.prog 28 #[.pointer (some ⟨gs, 2, none⟩), .agg #[.int .u32 a, .int .u32 b], .func (.func 16) #[] #[]] W fun e w' => e = .returned (.tuple #[.agg #[.int .u32 fa, .int .u32 fb], .bool hp]) ∧ MapTo w0 W gs qv sv v ps' w') :
    Calls Try.prog 18 #[.pointer (some ⟨gs, 0, none⟩), .agg #[.int .i64 6, .int .u32 a, .int .u32 b]] w fun e w' => e = .returned (.agg #[.int .i64 (toldK hp 3 1), .int .u32 (toldK hp fb 0)]) ∧ MapTo w0 w gs qv sv v ps' w' := by
  have HPP := Lib.hid HP
  have HO := Lib.hid ho
  have X0 := Lib.hid x0
  have l0 := (Blk.new w 38 [.int .i64 6, .int .u32 a, .int .u32 b]).ext ((Ext.refl _).alloc (.cells #[.int .i64 0, .int .u32 0] 34))
  have l1 := Blk.new (w.alloc (.cells #[.int .i64 6, .int .u32 a, .int .u32 b] 38)) 34 [.int .i64 0, .int .u32 0]
  rw [show (w.alloc (.cells #[.int .i64 6, .int .u32 a, .int .u32 b] 38)).heap.size = w.heap.size + 1 by simp] at l1
  have XB := Lib.hid (((Ext.refl w).alloc (.cells #[.int .i64 6, .int .u32 a, .int .u32 b] 38)).alloc (.cells #[.int .i64 0, .int .u32 0] 34))
  have L0 := Lib.hid l0
  have L1 := Lib.hid l1
  clear HP ho x0 l0 l1
  go_enter Try.func18, Try.ntmps18
  go_upto_region 17 with fail
  generalize (w.alloc (.cells #[.int .i64 6, .int .u32 a, .int .u32 b] 38)).alloc (.cells #[.int .i64 0, .int .u32 0] 34) = W0 at *
  have c1 : W0.cell? ⟨w.heap.size, 1, none⟩ = some (.int .u32 a) := L0.out.cell 1
  have c2 : W0.cell? ⟨w.heap.size, 2, none⟩ = some (.int .u32 b) := L0.out.cell 2
  have s0 := L0.out.lt
  have s1 := L1.out.lt
  have n0 : ¬ w.heap.size = W0.heap.size := by omega
  have n1 : ¬ w.heap.size + 1 = W0.heap.size := by omega
  have HC : Hid (∀ W : World, W.heap[w.heap.size]? = W0.heap[w.heap.size]? → W.cell? ⟨w.heap.size, 1, none⟩ = some (.int .u32 a) ∧ W.cell? ⟨w.heap.size, 2, none⟩ = some (.int .u32 b)) := Lib.hid (fun W e => ⟨(World.cell?_of_block e).trans (L0.out.cell 1), (World.cell?_of_block e).trans (L0.out.cell 2)⟩)
  go_cut [11, 12] (fun s11 s12 wx => ∃ g11 : Nat, s11 = .pointer (some ⟨g11, 0, none⟩) ∧ s12 = .bool hp ∧ Blk wx g11 46 [.int .u32 fa, .int .u32 fb] ∧ MapTo w0 W0 gs qv sv v ps' wx)
  case first =>
    have xt : Ext w W0.drew := XB.out.drew
    have xa : Ext w (W0.alloc (.cells #[.int .u32 0, .int .u32 0] 46)).drew := (XB.out.alloc _).drew
    have hso : v.ownBlock ≠ some w.heap.size := fun e => by have := HO.out _ e; omega
    have hgs : w.heap.size ≠ gs := by omega
    go_region_held3 (fun W => W.cell? ⟨w.heap.size, 1, none⟩ = some (.int .u32 a) ∧ W.cell? ⟨w.heap.size, 2, none⟩ = some (.int .u32 b)) (first | (with_reducible exact HC.out _ K5.out) | (exact HC.out _ ((((Ext.refl w5).alloc _).block _ T5.out).trans K5.out)) | (exact HC.out _ ((Below.heap_setCell _ ⟨W0.heap.size, 1, none⟩ _ _ n0).trans ((Below.heap_setCell _ ⟨W0.heap.size, 0, none⟩ _ _ n0).trans K5.out))) | go_keep) (first
      | (go_at_call 28; refine (HPP.out _ (by with_reducible exact xt)).mono ?_; rintro e w5 ⟨rfl, m5⟩; have K5 : Hid (w5.heap[w.heap.size]? = W0.heap[w.heap.size]?) := Lib.hid (by obtain ⟨v5, m5⟩ := m5; exact (m5.fr w.heap.size s0 hgs hso).1); have T5 : Hid (w.heap.size < w5.heap.size) := Lib.hid (by obtain ⟨v5, m5⟩ := m5; exact Nat.lt_of_lt_of_le s0 m5.size); have M5 := Lib.hid m5; clear m5)
      | (go_at_call 28; refine (HPP.out _ (by with_reducible exact xa)).mono ?_; rintro e w5 ⟨rfl, m5⟩; have K5 : Hid (w5.heap[w.heap.size]? = W0.heap[w.heap.size]?) := Lib.hid (by obtain ⟨v5, m5⟩ := m5; exact (m5.fr w.heap.size (by show w.heap.size < (W0.alloc (.cells #[.int .u32 0, .int .u32 0] 46)).heap.size; simp; omega) hgs hso).1.trans ((((Ext.refl W0).alloc _).drew).block _ s0)); have T5 : Hid (w.heap.size < w5.heap.size) := Lib.hid (by obtain ⟨v5, m5⟩ := m5; exact Nat.lt_of_lt_of_le (by show w.heap.size < (W0.alloc (.cells #[.int .u32 0, .int .u32 0] 46)).heap.size; simp; omega) m5.size); have b8 : Blk w5 W0.heap.size 46 [.int .u32 0, .int .u32 0] := (by obtain ⟨v5, m5⟩ := m5; exact (m5.fr W0.heap.size (by show W0.heap.size < (W0.alloc (.cells #[.int .u32 0, .int .u32 0] 46)).heap.size; simp) (by have := XB.out.size; omega) (fun e => by have := HO.out _ e; omega)).1.trans (Blk.new W0 46 [.int .u32 0, .int .u32 0])); have q0 : w5.cell? ⟨W0.heap.size, 0, none⟩ = some (.int .u32 0) := b8.cell 0; have q1 : w5.cell? ⟨W0.heap.size, 1, none⟩ = some (.int .u32 0) := b8.cell 1; have z0 : w5.frozen? ⟨W0.heap.size, 0, none⟩ = false := b8.frozen 0; have z1 : w5.frozen? ⟨W0.heap.size, 1, none⟩ = false := b8.frozen 1; have B8 := Lib.hid b8; have M5 := Lib.hid m5; clear m5 b8))
    all_goals
      go_wp2_with fail
      go_meet
      obtain ⟨v5, m5⟩ := M5.out
      have hw0 : w0.heap.size ≤ W0.heap.size := (X0.out.trans XB.out).size
      have hgW : gs < W0.heap.size := by omega
      have hoW : ∀ q, v.ownBlock = some q → q < W0.heap.size := fun q e => by have := HO.out q e; omega
      first
        | exact ⟨w5.heap.size, rfl, rfl, Blk.new w5 _ [.int .u32 fa, .int .u32 fb], v5, m5.turn (S := fun _ => False) ((Ext.refl W0).drew) (Fr.of_ext ((Ext.refl w5).alloc _)) hw0 hgW hoW (fun _ hs => hs.elim)⟩
        | exact ⟨W0.heap.size, rfl, rfl, (B8.out.set 0 (.int .u32 fa)).set 1 (.int .u32 fb), v5, m5.turn (S := fun q => q = W0.heap.size) (((Ext.refl W0).alloc _).drew) (Fr.setCell (p := ⟨W0.heap.size, 1, none⟩) (Fr.setCell (p := ⟨W0.heap.size, 0, none⟩) (Fr.refl (fun q => q = W0.heap.size) w5) (Or.inl rfl) _) (Or.inl rfl) _) hw0 hgW hoW (fun q e => ⟨by omega, Or.inl (by rw [e]; show W0.heap.size < (W0.alloc (.cells #[.int .u32 0, .int .u32 0] 46)).heap.size; simp)⟩)⟩
  case rest =>
    obtain ⟨g11, rfl, rfl, b11, v7, m7⟩ := hcut
    generalize wc = w7 at *
    have hso : v.ownBlock ≠ some (w.heap.size + 1) := fun e => by have := HO.out _ e; omega
    have h1 : Blk w7 (w.heap.size + 1) 34 [.int .i64 0, .int .u32 0] := (m7.fr _ s1 (by omega) hso).1.trans L1.out
    have j1 : w7.cell? ⟨g11, 1, none⟩ = some (.int .u32 fb) := b11.cell 1
    have ht := told_ok hp 3 1 fb w7
    obtain ⟨r0, hr0⟩ : ∃ r, toldK hp 3 1 = r := ⟨_, rfl⟩
    obtain ⟨r1, hr1⟩ : ∃ r, toldK hp fb 0 = r := ⟨_, rfl⟩
    rw [hr0, hr1] at ht
    have HR0 := Lib.hid hr0
    have HR1 := Lib.hid hr1
    have HT := Lib.hid ht
    clear ht hr0 hr1
    have H1 := Lib.hid h1
    have M7 := Lib.hid m7
    clear b11 h1 m7 c1 c2
    go_wp2_with fail
    refine HT.out.mono ?_
    rintro e w8 ⟨rfl, x8⟩
    have h8 := H1.out.ext x8
    have t0 : w8.cell? ⟨w.heap.size + 1, 0, none⟩ = some (.int .i64 0) := h8.cell 0
    have t1 : w8.cell? ⟨w.heap.size + 1, 1, none⟩ = some (.int .u32 0) := h8.cell 1
    have f0 : w8.frozen? ⟨w.heap.size + 1, 0, none⟩ = false := h8.frozen 0
    have f1 : w8.frozen? ⟨w.heap.size + 1, 1, none⟩ = false := h8.frozen 1
    have H8 := Lib.hid h8
    have X8 := Lib.hid x8
    clear h8 x8 j1
    go_wp2_with fail
    have L5 : Blk ((w8.setCell ⟨w.heap.size + 1, 0, none⟩ (.int .i64 r0)).setCell ⟨w.heap.size + 1, 1, none⟩ (.int .u32 r1)) (w.heap.size + 1) 34 [.int .i64 r0, .int .u32 r1] := (H8.out.set 0 (.int .i64 r0)).set 1 (.int .u32 r1)
    have M8 : MapTo w0 w gs qv sv v ps' ((w8.setCell ⟨w.heap.size + 1, 0, none⟩ (.int .i64 r0)).setCell ⟨w.heap.size + 1, 1, none⟩ (.int .u32 r1)) := ⟨v7, M7.out.turn (S := fun q => q = w.heap.size + 1) XB.out ((Fr.of_ext X8.out).trans (Fr.setCell (p := ⟨w.heap.size + 1, 1, none⟩) (Fr.setCell (p := ⟨w.heap.size + 1, 0, none⟩) (Fr.refl (fun q => q = w.heap.size + 1) w8) (Or.inl rfl) _) (Or.inl rfl) _) (fun _ _ hs => hs)) X0.out.size hg HO.out (fun q e => ⟨by omega, Or.inl (by omega)⟩)⟩
    generalize (w8.setCell ⟨w.heap.size + 1, 0, none⟩ (.int .i64 r0)).setCell ⟨w.heap.size + 1, 1, none⟩ (.int .u32 r1) = W7 at *
    have y0 : W7.cell? ⟨w.heap.size + 1, 0, none⟩ = some (.int .i64 r0) := L5.cell 0
    have y1 : W7.cell? ⟨w.heap.size + 1, 1, none⟩ = some (.int .u32 r1) := L5.cell 1
    exact bodyPost_ret (v := .agg #[.int .i64 r0, .int .u32 r1]) (by simp [results, Try.results18, go_sem, y0, y1]) rfl ⟨by rw [HR0.out, HR1.out], M8⟩
set_option maxRecDepth 100000 in
set_option maxHeartbeats 2000000 in
theorem do8_of (w0 w : World) (gs : Nat) (qv sv v : Value) (ps' : List Pr) (a b fa fb : Int) (hp : Bool) (x0 : Ext w0 w) (hg : gs < w.heap.size) (ho : ∀ q, v.ownBlock = some q → q < w.heap.size)
    (HP : ∀ W, Ext w W → Calls Try.prog 30 #[.pointer (some ⟨gs, 2, none⟩), .int .u32 a, .func (.func 16) #[] #[]] W fun e w' => e = .returned (.tuple #[.agg #[.int .u32 fa, .int .u32 fb], .bool hp]) ∧ MapTo w0 W gs qv sv v ps' w') :
    Calls Try.prog 18 #[.pointer (some ⟨gs, 0, none⟩), .agg #[.int .i64 8, .int .u32 a, .int .u32 b]] w fun e w' => e = .returned (.agg #[.int .i64 (toldK hp 1 4), .int .u32 (toldK hp fb 0)]) ∧ MapTo w0 w gs qv sv v ps' w' := by
  have HPP := Lib.hid HP
  have HO := Lib.hid ho
  have X0 := Lib.hid x0
  have l0 := (Blk.new w 38 [.int .i64 8, .int .u32 a, .int .u32 b]).ext ((Ext.refl _).alloc (.cells #[.int .i64 0, .int .u32 0] 34))
  have l1 := Blk.new (w.alloc (.cells #[.int .i64 8, .int .u32 a, .int .u32 b] 38)) 34 [.int .i64 0, .int .u32 0]
  rw [show (w.alloc (.cells #[.int .i64 8, .int .u32 a, .int .u32 b] 38)).heap.size = w.heap.size + 1 by simp] at l1
  have XB := Lib.hid (((Ext.refl w).alloc (.cells #[.int .i64 8, .int .u32 a, .int .u32 b] 38)).alloc (.cells #[.int .i64 0, .int .u32 0] 34))
  have L0 := Lib.hid l0
  have L1 := Lib.hid l1
  clear HP ho x0 l0 l1
  go_enter Try.func18, Try.ntmps18
  go_upto_region 23 with fail
  generalize (w.alloc (.cells #[.int .i64 8, .int .u32 a, .int .u32 b] 38)).alloc (.cells #[.int .i64 0, .int .u32 0] 34) = W0 at *
  have c1 : W0.cell? ⟨w.heap.size, 1, none⟩ = some (.int .u32 a) := L0.out.cell 1
  have c2 : W0.cell? ⟨w.heap.size, 2, none⟩ = some (.int .u32 b) := L0.out.cell 2
  have s0 := L0.out.lt
  have s1 := L1.out.lt
  have n0 : ¬ w.heap.size = W0.heap.size := by omega
  have n1 : ¬ w.heap.size + 1 = W0.heap.size := by omega
  have HC : Hid (∀ W : World, W.heap[w.heap.size]? = W0.heap[w.heap.size]? → W.cell? ⟨w.heap.size, 1, none⟩ = some (.int .u32 a) ∧ W.cell? ⟨w.heap.size, 2, none⟩ = some (.int .u32 b)) := Lib.hid (fun W e => ⟨(World.cell?_of_block e).trans (L0.out.cell 1), (World.cell?_of_block e).trans (L0.out.cell 2)⟩)
  go_cut [15, 16] (fun s11 s12 wx => ∃ g11 : Nat, s11 = .pointer (some ⟨g11, 0, none⟩) ∧ s12 = .bool hp ∧ Blk wx g11 46 [.int .u32 fa, .int .u32 fb] ∧ MapTo w0 W0 gs qv sv v ps' wx)
  case first =>
    have xt : Ext w W0.drew := XB.out.drew
    have xa : Ext w (W0.alloc (.cells #[.int .u32 0, .int .u32 0] 46)).drew := (XB.out.alloc _).drew
    have hso : v.ownBlock ≠ some w.heap.size := fun e => by have := HO.out _ e; omega
    have hgs : w.heap.size ≠ gs := by omega
    go_region_held3 (fun W => W.cell? ⟨w.heap.size, 1, none⟩ = some (.int .u32 a) ∧ W.cell? ⟨w.heap.size, 2, none⟩ = some (.int .u32 b)) (first | (with_reducible exact HC.out _ K5.out) | (exact HC.out _ ((((Ext.refl w5).alloc _).block _ T5.out).trans K5.out)) | (exact HC.out _ ((Below.heap_setCell _ ⟨W0.heap.size, 1, none⟩ _ _ n0).trans ((Below.heap_setCell _ ⟨W0.heap.size, 0, none⟩ _ _ n0).trans K5.out))) | go_keep) (first
      | (go_at_call 30; refine (HPP.out _ (by with_reducible exact xt)).mono ?_; rintro e w5 ⟨rfl, m5⟩; have K5 : Hid (w5.heap[w.heap.size]? = W0.heap[w.heap.size]?) := Lib.hid (by obtain ⟨v5, m5⟩ := m5; exact (m5.fr w.heap.size s0 hgs hso).1); have T5 : Hid (w.heap.size < w5.heap.size) := Lib.hid (by obtain ⟨v5, m5⟩ := m5; exact Nat.lt_of_lt_of_le s0 m5.size); have M5 := Lib.hid m5; clear m5)
      | (go_at_call 30; refine (HPP.out _ (by with_reducible exact xa)).mono ?_; rintro e w5 ⟨rfl, m5⟩; have K5 : Hid (w5.heap[w.heap.size]? = W0.heap[w.heap.size]?) := Lib.hid (by obtain ⟨v5, m5⟩ := m5; exact (m5.fr w.heap.size (by show w.heap.size < (W0.alloc (.cells #[.int .u32 0, .int .u32 0] 46)).heap.size; simp; omega) hgs hso).1.trans ((((Ext.refl W0).alloc _).drew).block _ s0)); have T5 : Hid (w.heap.size < w5.heap.size) := Lib.hid (by obtain ⟨v5, m5⟩ := m5; exact Nat.lt_of_lt_of_le (by show w.heap.size < (W0.alloc (.cells #[.int .u32 0, .int .u32 0] 46)).heap.size; simp; omega) m5.size); have b8 : Blk w5 W0.heap.size 46 [.int .u32 0, .int .u32 0] := (by obtain ⟨v5, m5⟩ := m5; exact (m5.fr W0.heap.size (by show W0.heap.size < (W0.alloc (.cells #[.int .u32 0, .int .u32 0] 46)).heap.size; simp) (by have := XB.out.size; omega) (fun e => by have := HO.out _ e; omega)).1.trans (Blk.new W0 46 [.int .u32 0, .int .u32 0])); have q0 : w5.cell? ⟨W0.heap.size, 0, none⟩ = some (.int .u32 0) := b8.cell 0; have q1 : w5.cell? ⟨W0.heap.size, 1, none⟩ = some (.int .u32 0) := b8.cell 1; have z0 : w5.frozen? ⟨W0.heap.size, 0, none⟩ = false := b8.frozen 0; have z1 : w5.frozen? ⟨W0.heap.size, 1, none⟩ = false := b8.frozen 1; have B8 := Lib.hid b8; have M5 := Lib.hid m5; clear m5 b8))
    all_goals
      go_wp2_with fail
      go_meet
      obtain ⟨v5, m5⟩ := M5.out
      have hw0 : w0.heap.size ≤ W0.heap.size := (X0.out.trans XB.out).size
      have hgW : gs < W0.heap.size := by omega
      have hoW : ∀ q, v.ownBlock = some q → q < W0.heap.size := fun q e => by have := HO.out q e; omega
      first
        | exact ⟨w5.heap.size, rfl, rfl, Blk.new w5 _ [.int .u32 fa, .int .u32 fb], v5, m5.turn (S := fun _ => False) ((Ext.refl W0).drew) (Fr.of_ext ((Ext.refl w5).alloc _)) hw0 hgW hoW (fun _ hs => hs.elim)⟩
        | exact ⟨W0.heap.size, rfl, rfl, (B8.out.set 0 (.int .u32 fa)).set 1 (.int .u32 fb), v5, m5.turn (S := fun q => q = W0.heap.size) (((Ext.refl W0).alloc _).drew) (Fr.setCell (p := ⟨W0.heap.size, 1, none⟩) (Fr.setCell (p := ⟨W0.heap.size, 0, none⟩) (Fr.refl (fun q => q = W0.heap.size) w5) (Or.inl rfl) _) (Or.inl rfl) _) hw0 hgW hoW (fun q e => ⟨by omega, Or.inl (by rw [e]; show W0.heap.size < (W0.alloc (.cells #[.int .u32 0, .int .u32 0] 46)).heap.size; simp)⟩)⟩
  case rest =>
    obtain ⟨g11, rfl, rfl, b11, v7, m7⟩ := hcut
    generalize wc = w7 at *
    have hso : v.ownBlock ≠ some (w.heap.size + 1) := fun e => by have := HO.out _ e; omega
    have h1 : Blk w7 (w.heap.size + 1) 34 [.int .i64 0, .int .u32 0] := (m7.fr _ s1 (by omega) hso).1.trans L1.out
    have j1 : w7.cell? ⟨g11, 1, none⟩ = some (.int .u32 fb) := b11.cell 1
    have ht := told_ok hp 1 4 fb w7
    obtain ⟨r0, hr0⟩ : ∃ r, toldK hp 1 4 = r := ⟨_, rfl⟩
    obtain ⟨r1, hr1⟩ : ∃ r, toldK hp fb 0 = r := ⟨_, rfl⟩
    rw [hr0, hr1] at ht
    have HR0 := Lib.hid hr0
    have HR1 := Lib.hid hr1
    have HT := Lib.hid ht
    clear ht hr0 hr1
    have H1 := Lib.hid h1
    have M7 := Lib.hid m7
    clear b11 h1 m7 c1 c2
    go_wp2_with fail
    refine HT.out.mono ?_
    rintro e w8 ⟨rfl, x8⟩
    have h8 := H1.out.ext x8
    have t0 : w8.cell? ⟨w.heap.size + 1, 0, none⟩ = some (.int .i64 0) := h8.cell 0
    have t1 : w8.cell? ⟨w.heap.size + 1, 1, none⟩ = some (.int .u32 0) := h8.cell 1
    have f0 : w8.frozen? ⟨w.heap.size + 1, 0, none⟩ = false := h8.frozen 0
    have f1 : w8.frozen? ⟨w.heap.size + 1, 1, none⟩ = false := h8.frozen 1
    have H8 := Lib.hid h8
    have X8 := Lib.hid x8
    clear h8 x8 j1
    go_wp2_with fail
    have L5 : Blk ((w8.setCell ⟨w.heap.size + 1, 0, none⟩ (.int .i64 r0)).setCell ⟨w.heap.size + 1, 1, none⟩ (.int .u32 r1)) (w.heap.size + 1) 34 [.int .i64 r0, .int .u32 r1] := (H8.out.set 0 (.int .i64 r0)).set 1 (.int .u32 r1)
    have M8 : MapTo w0 w gs qv sv v ps' ((w8.setCell ⟨w.heap.size + 1, 0, none⟩ (.int .i64 r0)).setCell ⟨w.heap.size + 1, 1, none⟩ (.int .u32 r1)) := ⟨v7, M7.out.turn (S := fun q => q = w.heap.size + 1) XB.out ((Fr.of_ext X8.out).trans (Fr.setCell (p := ⟨w.heap.size + 1, 1, none⟩) (Fr.setCell (p := ⟨w.heap.size + 1, 0, none⟩) (Fr.refl (fun q => q = w.heap.size + 1) w8) (Or.inl rfl) _) (Or.inl rfl) _) (fun _ _ hs => hs)) X0.out.size hg HO.out (fun q e => ⟨by omega, Or.inl (by omega)⟩)⟩
    generalize (w8.setCell ⟨w.heap.size + 1, 0, none⟩ (.int .i64 r0)).setCell ⟨w.heap.size + 1, 1, none⟩ (.int .u32 r1) = W7 at *
    have y0 : W7.cell? ⟨w.heap.size + 1, 0, none⟩ = some (.int .i64 r0) := L5.cell 0
    have y1 : W7.cell? ⟨w.heap.size + 1, 1, none⟩ = some (.int .u32 r1) := L5.cell 1
    exact bodyPost_ret (v := .agg #[.int .i64 r0, .int .u32 r1]) (by simp [results, Try.results18, go_sem, y0, y1]) rfl ⟨by rw [HR0.out, HR1.out], M8⟩
end Go.Proofs.Ythbngenjcgclgaa
