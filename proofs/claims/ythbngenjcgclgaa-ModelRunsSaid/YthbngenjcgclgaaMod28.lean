/- Layer 8: model.do of kinds 2 to 5, 7, and of no kind. Conditions: those that each theorem names. -/
import Derived.Test.YthbngenjcgclgaaMod27
namespace Go.Proofs.Ythbngenjcgclgaa
open Go.ChangeShapes Go.WideShapes Go.ChangeAt Go.RowKit
set_option linter.unusedVariables false
set_option maxRecDepth 100000 in
set_option maxHeartbeats 2000000 in
theorem do2_of (w0 w : World) (gs : Nat) (v sv mv : Value) (zs' : List Int) (a b r0 r1 : Int) (x0 : Ext w0 w) (hgs : gs < w.heap.size) (ho : ∀ q, v.ownBlock = some q → q < w.heap.size)
    (HP : ∀ W, Ext w W → Calls Try.prog 23 #[.pointer (some ⟨gs, 0, none⟩)] W fun e w' => e = .returned (.agg #[.int .i64 r0, .int .u32 r1]) ∧ QueTo w0 W gs v sv mv zs' w') :
    Calls Try.prog 18 #[.pointer (some ⟨gs, 0, none⟩), .agg #[.int .i64 2, .int .u32 a, .int .u32 b]] w fun e w' => e = .returned (.agg #[.int .i64 r0, .int .u32 r1]) ∧ QueTo w0 w gs v sv mv zs' w' := by
  have HPP := Lib.hid HP
  have HO := Lib.hid ho
  have X0 := Lib.hid x0
  clear HP ho x0
  have l0 := (Blk.new w 38 [.int .i64 2, .int .u32 a, .int .u32 b]).ext ((Ext.refl _).alloc (.cells #[.int .i64 0, .int .u32 0] 34))
  have l1 := Blk.new (w.alloc (.cells #[.int .i64 2, .int .u32 a, .int .u32 b] 38)) 34 [.int .i64 0, .int .u32 0]
  rw [show (w.alloc (.cells #[.int .i64 2, .int .u32 a, .int .u32 b] 38)).heap.size = w.heap.size + 1 by simp] at l1
  have XB := Lib.hid (((Ext.refl w).alloc (.cells #[.int .i64 2, .int .u32 a, .int .u32 b] 38)).alloc (.cells #[.int .i64 0, .int .u32 0] 34))
  have L0 := Lib.hid l0
  have L1 := Lib.hid l1
  clear l0 l1
  go_enter Try.func18, Try.ntmps18
  go_upto_region 6 with fail
  generalize (w.alloc (.cells #[.int .i64 2, .int .u32 a, .int .u32 b] 38)).alloc (.cells #[.int .i64 0, .int .u32 0] 34) = W0 at *
  have s0 := L0.out.lt
  have s1 := L1.out.lt
  go_wp2_with fail
  refine (HPP.out _ XB.out).mono ?_
  rintro e w8 ⟨rfl, v', k8⟩
  have h8 : Blk w8 (w.heap.size + 1) 34 [.int .i64 0, .int .u32 0] := (k8.fr _ s1 (by omega) (fun e => by have := HO.out _ e; omega)).1.trans L1.out
  have K8 := Lib.hid k8
  clear k8
  have t0 : w8.cell? ⟨w.heap.size + 1, 0, none⟩ = some (.int .i64 0) := h8.cell 0
  have t1 : w8.cell? ⟨w.heap.size + 1, 1, none⟩ = some (.int .u32 0) := h8.cell 1
  have f0 : w8.frozen? ⟨w.heap.size + 1, 0, none⟩ = false := h8.frozen 0
  have f1 : w8.frozen? ⟨w.heap.size + 1, 1, none⟩ = false := h8.frozen 1
  have H8 := Lib.hid h8
  clear h8
  go_wp2_with fail
  have L5 : Blk ((w8.setCell ⟨w.heap.size + 1, 0, none⟩ (.int .i64 r0)).setCell ⟨w.heap.size + 1, 1, none⟩ (.int .u32 r1)) (w.heap.size + 1) 34 [.int .i64 r0, .int .u32 r1] := (H8.out.set 0 (.int .i64 r0)).set 1 (.int .u32 r1)
  have fr8 : Fr (fun q => q = w.heap.size + 1) w8 ((w8.setCell ⟨w.heap.size + 1, 0, none⟩ (.int .i64 r0)).setCell ⟨w.heap.size + 1, 1, none⟩ (.int .u32 r1)) := Fr.setCell (p := ⟨w.heap.size + 1, 1, none⟩) (Fr.setCell (p := ⟨w.heap.size + 1, 0, none⟩) (Fr.refl (fun q => q = w.heap.size + 1) w8) (Or.inl rfl) _) (Or.inl rfl) _
  have M8 := K8.out.turn (S := fun q => q = w.heap.size + 1) XB.out fr8 X0.out.size hgs HO.out (fun q e => ⟨by omega, Or.inl (by omega)⟩)
  generalize (w8.setCell ⟨w.heap.size + 1, 0, none⟩ (.int .i64 r0)).setCell ⟨w.heap.size + 1, 1, none⟩ (.int .u32 r1) = W7 at *
  have y0 : W7.cell? ⟨w.heap.size + 1, 0, none⟩ = some (.int .i64 r0) := L5.cell 0
  have y1 : W7.cell? ⟨w.heap.size + 1, 1, none⟩ = some (.int .u32 r1) := L5.cell 1
  exact bodyPost_ret (v := .agg #[.int .i64 r0, .int .u32 r1]) (by simp [results, Try.results18, go_sem, y0, y1]) rfl ⟨rfl, v', M8⟩
set_option maxRecDepth 100000 in
set_option maxHeartbeats 2000000 in
theorem do3_of (w0 w : World) (gs : Nat) (qv v mv : Value) (zs' : List Int) (a b fa : Int) (hp : Bool) (x0 : Ext w0 w) (hgs : gs < w.heap.size) (ho : ∀ q, v.ownBlock = some q → q < w.heap.size)
    (HP : ∀ W, Ext w W → Calls Try.prog 24 #[.pointer (some ⟨gs, 1, none⟩), .int .u32 a, .func (.func 14) #[] #[]] W fun e w' => e = .returned (.tuple #[.int .u32 fa, .bool hp]) ∧ SetTo w0 W gs qv v mv zs' w') :
    Calls Try.prog 18 #[.pointer (some ⟨gs, 0, none⟩), .agg #[.int .i64 3, .int .u32 a, .int .u32 b]] w fun e w' => e = .returned (.agg #[.int .i64 (toldK hp 3 1), .int .u32 (toldK hp 0 0)]) ∧ SetTo w0 w gs qv v mv zs' w' := by
  have HPP := Lib.hid HP
  have HO := Lib.hid ho
  have X0 := Lib.hid x0
  clear HP ho x0
  have l0 := (Blk.new w 38 [.int .i64 3, .int .u32 a, .int .u32 b]).ext ((Ext.refl _).alloc (.cells #[.int .i64 0, .int .u32 0] 34))
  have l1 := Blk.new (w.alloc (.cells #[.int .i64 3, .int .u32 a, .int .u32 b] 38)) 34 [.int .i64 0, .int .u32 0]
  rw [show (w.alloc (.cells #[.int .i64 3, .int .u32 a, .int .u32 b] 38)).heap.size = w.heap.size + 1 by simp] at l1
  have XB := Lib.hid (((Ext.refl w).alloc (.cells #[.int .i64 3, .int .u32 a, .int .u32 b] 38)).alloc (.cells #[.int .i64 0, .int .u32 0] 34))
  have L0 := Lib.hid l0
  have L1 := Lib.hid l1
  clear l0 l1
  go_enter Try.func18, Try.ntmps18
  go_upto_region 8 with fail
  generalize (w.alloc (.cells #[.int .i64 3, .int .u32 a, .int .u32 b] 38)).alloc (.cells #[.int .i64 0, .int .u32 0] 34) = W0 at *
  have s0 := L0.out.lt
  have s1 := L1.out.lt
  have c1 : W0.cell? ⟨w.heap.size, 1, none⟩ = some (.int .u32 a) := L0.out.cell 1
  go_cut [5, 6] (fun s5 s6 wx => s5 = .int .u32 fa ∧ s6 = .bool hp ∧ SetTo w0 W0 gs qv v mv zs' wx)
  case first =>
    have xt : Ext w W0.drew := XB.out.drew
    have hso : v.ownBlock ≠ some w.heap.size := fun e => by have := HO.out _ e; omega
    have hgs' : w.heap.size ≠ gs := by omega
    have HC : Hid (∀ W : World, W.heap[w.heap.size]? = W0.heap[w.heap.size]? → W.cell? ⟨w.heap.size, 1, none⟩ = some (.int .u32 a)) := Lib.hid (fun W e => (World.cell?_of_block e).trans (L0.out.cell 1))
    go_region_held3 (fun W => W.cell? ⟨w.heap.size, 1, none⟩ = some (.int .u32 a)) (first | (with_reducible exact HC.out _ K5.out) | go_keep) (first
      | (go_at_call 24; refine (HPP.out _ (by with_reducible exact xt)).mono ?_; rintro e w5 ⟨rfl, m5⟩; have K5 : Hid (w5.heap[w.heap.size]? = W0.heap[w.heap.size]?) := Lib.hid (by obtain ⟨v5, m5⟩ := m5; exact (m5.fr w.heap.size s0 hgs' hso).1); have M5 := Lib.hid m5; clear m5))
    all_goals
      go_wp2_with fail
      go_meet
      obtain ⟨v5, m5⟩ := M5.out
      exact ⟨rfl, rfl, v5, m5.before (W := W0.drew) ((Ext.refl W0).drew)⟩
  case rest =>
    obtain ⟨rfl, rfl, v7, m7⟩ := hcut
    generalize wc = w7 at *
    have h1 : Blk w7 (w.heap.size + 1) 34 [.int .i64 0, .int .u32 0] := (m7.fr _ s1 (by omega) (fun e => by have := HO.out _ e; omega)).1.trans L1.out
    have ht := told_ok hp 3 1 0 w7
    obtain ⟨r0, hr0⟩ : ∃ r, toldK hp 3 1 = r := ⟨_, rfl⟩
    obtain ⟨r1, hr1⟩ : ∃ r, toldK hp 0 0 = r := ⟨_, rfl⟩
    rw [hr0, hr1] at ht
    have HR0 := Lib.hid hr0
    have HR1 := Lib.hid hr1
    have HT := Lib.hid ht
    have H1 := Lib.hid h1
    have M7 := Lib.hid m7
    clear h1 m7 c1 ht hr0 hr1
    go_wp2_with fail
    refine HT.out.mono ?_
    rintro e w8 ⟨rfl, x8⟩
    have h8 := H1.out.ext x8
    have X8 := Lib.hid x8
    clear x8
    have t0 : w8.cell? ⟨w.heap.size + 1, 0, none⟩ = some (.int .i64 0) := h8.cell 0
    have t1 : w8.cell? ⟨w.heap.size + 1, 1, none⟩ = some (.int .u32 0) := h8.cell 1
    have f0 : w8.frozen? ⟨w.heap.size + 1, 0, none⟩ = false := h8.frozen 0
    have f1 : w8.frozen? ⟨w.heap.size + 1, 1, none⟩ = false := h8.frozen 1
    have H8 := Lib.hid h8
    clear h8
    go_wp2_with fail
    have L5 : Blk ((w8.setCell ⟨w.heap.size + 1, 0, none⟩ (.int .i64 r0)).setCell ⟨w.heap.size + 1, 1, none⟩ (.int .u32 r1)) (w.heap.size + 1) 34 [.int .i64 r0, .int .u32 r1] := (H8.out.set 0 (.int .i64 r0)).set 1 (.int .u32 r1)
    have fr8 : Fr (fun q => q = w.heap.size + 1) w8 ((w8.setCell ⟨w.heap.size + 1, 0, none⟩ (.int .i64 r0)).setCell ⟨w.heap.size + 1, 1, none⟩ (.int .u32 r1)) := Fr.setCell (p := ⟨w.heap.size + 1, 1, none⟩) (Fr.setCell (p := ⟨w.heap.size + 1, 0, none⟩) (Fr.refl (fun q => q = w.heap.size + 1) w8) (Or.inl rfl) _) (Or.inl rfl) _
    have M8 := M7.out.turn (S := fun q => q = w.heap.size + 1) XB.out ((Fr.of_ext X8.out).trans fr8 (fun _ _ hs => hs)) X0.out.size hgs HO.out (fun q e => ⟨by omega, Or.inl (by omega)⟩)
    generalize (w8.setCell ⟨w.heap.size + 1, 0, none⟩ (.int .i64 r0)).setCell ⟨w.heap.size + 1, 1, none⟩ (.int .u32 r1) = W7 at *
    have y0 : W7.cell? ⟨w.heap.size + 1, 0, none⟩ = some (.int .i64 r0) := L5.cell 0
    have y1 : W7.cell? ⟨w.heap.size + 1, 1, none⟩ = some (.int .u32 r1) := L5.cell 1
    exact bodyPost_ret (v := .agg #[.int .i64 r0, .int .u32 r1]) (by simp [results, Try.results18, go_sem, y0, y1]) rfl ⟨by rw [HR0.out, HR1.out], v7, M8⟩
set_option maxRecDepth 100000 in
set_option maxHeartbeats 2000000 in
theorem do4_of (w0 w : World) (gs : Nat) (qv v mv : Value) (zs' : List Int) (a b fa : Int) (hp : Bool) (x0 : Ext w0 w) (hgs : gs < w.heap.size) (ho : ∀ q, v.ownBlock = some q → q < w.heap.size)
    (HP : ∀ W, Ext w W → Calls Try.prog 26 #[.pointer (some ⟨gs, 1, none⟩), .int .u32 a, .func (.func 14) #[] #[]] W fun e w' => e = .returned (.tuple #[.int .u32 fa, .bool hp]) ∧ SetTo w0 W gs qv v mv zs' w') :
    Calls Try.prog 18 #[.pointer (some ⟨gs, 0, none⟩), .agg #[.int .i64 4, .int .u32 a, .int .u32 b]] w fun e w' => e = .returned (.agg #[.int .i64 (toldK hp 1 4), .int .u32 (toldK hp 0 0)]) ∧ SetTo w0 w gs qv v mv zs' w' := by
  have HPP := Lib.hid HP
  have HO := Lib.hid ho
  have X0 := Lib.hid x0
  clear HP ho x0
  have l0 := (Blk.new w 38 [.int .i64 4, .int .u32 a, .int .u32 b]).ext ((Ext.refl _).alloc (.cells #[.int .i64 0, .int .u32 0] 34))
  have l1 := Blk.new (w.alloc (.cells #[.int .i64 4, .int .u32 a, .int .u32 b] 38)) 34 [.int .i64 0, .int .u32 0]
  rw [show (w.alloc (.cells #[.int .i64 4, .int .u32 a, .int .u32 b] 38)).heap.size = w.heap.size + 1 by simp] at l1
  have XB := Lib.hid (((Ext.refl w).alloc (.cells #[.int .i64 4, .int .u32 a, .int .u32 b] 38)).alloc (.cells #[.int .i64 0, .int .u32 0] 34))
  have L0 := Lib.hid l0
  have L1 := Lib.hid l1
  clear l0 l1
  go_enter Try.func18, Try.ntmps18
  go_upto_region 11 with fail
  generalize (w.alloc (.cells #[.int .i64 4, .int .u32 a, .int .u32 b] 38)).alloc (.cells #[.int .i64 0, .int .u32 0] 34) = W0 at *
  have s0 := L0.out.lt
  have s1 := L1.out.lt
  have c1 : W0.cell? ⟨w.heap.size, 1, none⟩ = some (.int .u32 a) := L0.out.cell 1
  go_cut [7, 8] (fun s5 s6 wx => s5 = .int .u32 fa ∧ s6 = .bool hp ∧ SetTo w0 W0 gs qv v mv zs' wx)
  case first =>
    have xt : Ext w W0.drew := XB.out.drew
    have hso : v.ownBlock ≠ some w.heap.size := fun e => by have := HO.out _ e; omega
    have hgs' : w.heap.size ≠ gs := by omega
    have HC : Hid (∀ W : World, W.heap[w.heap.size]? = W0.heap[w.heap.size]? → W.cell? ⟨w.heap.size, 1, none⟩ = some (.int .u32 a)) := Lib.hid (fun W e => (World.cell?_of_block e).trans (L0.out.cell 1))
    go_region_held3 (fun W => W.cell? ⟨w.heap.size, 1, none⟩ = some (.int .u32 a)) (first | (with_reducible exact HC.out _ K5.out) | go_keep) (first
      | (go_at_call 26; refine (HPP.out _ (by with_reducible exact xt)).mono ?_; rintro e w5 ⟨rfl, m5⟩; have K5 : Hid (w5.heap[w.heap.size]? = W0.heap[w.heap.size]?) := Lib.hid (by obtain ⟨v5, m5⟩ := m5; exact (m5.fr w.heap.size s0 hgs' hso).1); have M5 := Lib.hid m5; clear m5))
    all_goals
      go_wp2_with fail
      go_meet
      obtain ⟨v5, m5⟩ := M5.out
      exact ⟨rfl, rfl, v5, m5.before (W := W0.drew) ((Ext.refl W0).drew)⟩
  case rest =>
    obtain ⟨rfl, rfl, v7, m7⟩ := hcut
    generalize wc = w7 at *
    have h1 : Blk w7 (w.heap.size + 1) 34 [.int .i64 0, .int .u32 0] := (m7.fr _ s1 (by omega) (fun e => by have := HO.out _ e; omega)).1.trans L1.out
    have ht := told_ok hp 1 4 0 w7
    obtain ⟨r0, hr0⟩ : ∃ r, toldK hp 1 4 = r := ⟨_, rfl⟩
    obtain ⟨r1, hr1⟩ : ∃ r, toldK hp 0 0 = r := ⟨_, rfl⟩
    rw [hr0, hr1] at ht
    have HR0 := Lib.hid hr0
    have HR1 := Lib.hid hr1
    have HT := Lib.hid ht
    have H1 := Lib.hid h1
    have M7 := Lib.hid m7
    clear h1 m7 c1 ht hr0 hr1
    go_wp2_with fail
    refine HT.out.mono ?_
    rintro e w8 ⟨rfl, x8⟩
    have h8 := H1.out.ext x8
    have X8 := Lib.hid x8
    clear x8
    have t0 : w8.cell? ⟨w.heap.size + 1, 0, none⟩ = some (.int .i64 0) := h8.cell 0
    have t1 : w8.cell? ⟨w.heap.size + 1, 1, none⟩ = some (.int .u32 0) := h8.cell 1
    have f0 : w8.frozen? ⟨w.heap.size + 1, 0, none⟩ = false := h8.frozen 0
    have f1 : w8.frozen? ⟨w.heap.size + 1, 1, none⟩ = false := h8.frozen 1
    have H8 := Lib.hid h8
    clear h8
    go_wp2_with fail
    have L5 : Blk ((w8.setCell ⟨w.heap.size + 1, 0, none⟩ (.int .i64 r0)).setCell ⟨w.heap.size + 1, 1, none⟩ (.int .u32 r1)) (w.heap.size + 1) 34 [.int .i64 r0, .int .u32 r1] := (H8.out.set 0 (.int .i64 r0)).set 1 (.int .u32 r1)
    have fr8 : Fr (fun q => q = w.heap.size + 1) w8 ((w8.setCell ⟨w.heap.size + 1, 0, none⟩ (.int .i64 r0)).setCell ⟨w.heap.size + 1, 1, none⟩ (.int .u32 r1)) := Fr.setCell (p := ⟨w.heap.size + 1, 1, none⟩) (Fr.setCell (p := ⟨w.heap.size + 1, 0, none⟩) (Fr.refl (fun q => q = w.heap.size + 1) w8) (Or.inl rfl) _) (Or.inl rfl) _
    have M8 := M7.out.turn (S := fun q => q = w.heap.size + 1) XB.out ((Fr.of_ext X8.out).trans fr8 (fun _ _ hs => hs)) X0.out.size hgs HO.out (fun q e => ⟨by omega, Or.inl (by omega)⟩)
    generalize (w8.setCell ⟨w.heap.size + 1, 0, none⟩ (.int .i64 r0)).setCell ⟨w.heap.size + 1, 1, none⟩ (.int .u32 r1) = W7 at *
    have y0 : W7.cell? ⟨w.heap.size + 1, 0, none⟩ = some (.int .i64 r0) := L5.cell 0
    have y1 : W7.cell? ⟨w.heap.size + 1, 1, none⟩ = some (.int .u32 r1) := L5.cell 1
    exact bodyPost_ret (v := .agg #[.int .i64 r0, .int .u32 r1]) (by simp [results, Try.results18, go_sem, y0, y1]) rfl ⟨by rw [HR0.out, HR1.out], v7, M8⟩
set_option maxRecDepth 100000 in
set_option maxHeartbeats 2000000 in
theorem do5_ok (w : World) (gs : Nat) (qv v mv : Value) (B : Nat) (zs : List Int) (a b : Int) (hb : Blk w gs 25 [qv, v, mv]) (h : IRow w B v zs) (hn : zs.length ≤ 1000000) :
    Calls Try.prog 18 #[.pointer (some ⟨gs, 0, none⟩), .agg #[.int .i64 5, .int .u32 a, .int .u32 b]] w fun e w' => e = .returned (.agg #[.int .i64 (toldK (hasI zs a) 3 4), .int .u32 (toldK (hasI zs a) 0 0)]) ∧ Ext w w' := by
  obtain ⟨A, c, rfl, hnc, hcm, hP⟩ := h.form
  have hgs := hb.lt
  have HB := Lib.hid hb
  have HFi := Lib.hid (fun (W : World) (x : Ext w W) => (find32_ok W A zs.length c zs a rfl hn (hP.ext x)).mono fun e w' ⟨h1, h2⟩ => (⟨h1, h2.symm⟩ : e = Ending.returned (.tuple #[.int .u32 (foundI zs a), .bool (hasI zs a)]) ∧ w' = W))
  generalize zs.length = n at *
  generalize foundI zs a = fa at *
  generalize hasI zs a = hp at *
  clear h hP hb
  have l0 := (Blk.new w 38 [.int .i64 5, .int .u32 a, .int .u32 b]).ext ((Ext.refl _).alloc (.cells #[.int .i64 0, .int .u32 0] 34))
  have l1 := Blk.new (w.alloc (.cells #[.int .i64 5, .int .u32 a, .int .u32 b] 38)) 34 [.int .i64 0, .int .u32 0]
  rw [show (w.alloc (.cells #[.int .i64 5, .int .u32 a, .int .u32 b] 38)).heap.size = w.heap.size + 1 by simp] at l1
  have XB := Lib.hid (((Ext.refl w).alloc (.cells #[.int .i64 5, .int .u32 a, .int .u32 b] 38)).alloc (.cells #[.int .i64 0, .int .u32 0] 34))
  have L0 := Lib.hid l0
  have L1 := Lib.hid l1
  clear l0 l1
  go_enter Try.func18, Try.ntmps18
  go_upto_region 14 with fail
  generalize (w.alloc (.cells #[.int .i64 5, .int .u32 a, .int .u32 b] 38)).alloc (.cells #[.int .i64 0, .int .u32 0] 34) = W0 at *
  have s0 := L0.out.lt
  have s1 := L1.out.lt
  have c1 : W0.cell? ⟨w.heap.size, 1, none⟩ = some (.int .u32 a) := L0.out.cell 1
  have c0 : W0.cell? ⟨gs, 1, none⟩ = some (.slice A n c) := (HB.out.ext XB.out).cell 1
  go_quiet ((go_at_call 27; exact Calls.quiet_of_same (HFi.out _ (by first | exact XB.out | exact XB.out.drew | exact XB.out.trans (extN _ _)))))
  have ht := fun W => told_ok hp 3 4 0 W
  obtain ⟨r0, hr0⟩ : ∃ r, toldK hp 3 4 = r := ⟨_, rfl⟩
  obtain ⟨r1, hr1⟩ : ∃ r, toldK hp 0 0 = r := ⟨_, rfl⟩
  rw [hr0, hr1] at ht
  have HR0 := Lib.hid hr0
  have HR1 := Lib.hid hr1
  have HT := Lib.hid ht
  clear ht hr0 hr1 c0 c1 HFi
  go_wp2_with fail
  refine (HT.out _).mono ?_
  rintro e w8 ⟨rfl, x8⟩
  have X8 := Lib.hid ((extN W0 _).trans x8)
  have h8 := L1.out.ext X8.out
  clear x8
  have t0 : w8.cell? ⟨w.heap.size + 1, 0, none⟩ = some (.int .i64 0) := h8.cell 0
  have t1 : w8.cell? ⟨w.heap.size + 1, 1, none⟩ = some (.int .u32 0) := h8.cell 1
  have f0 : w8.frozen? ⟨w.heap.size + 1, 0, none⟩ = false := h8.frozen 0
  have f1 : w8.frozen? ⟨w.heap.size + 1, 1, none⟩ = false := h8.frozen 1
  have H8 := Lib.hid h8
  clear h8
  go_wp2_with fail
  have L5 : Blk ((w8.setCell ⟨w.heap.size + 1, 0, none⟩ (.int .i64 r0)).setCell ⟨w.heap.size + 1, 1, none⟩ (.int .u32 r1)) (w.heap.size + 1) 34 [.int .i64 r0, .int .u32 r1] := (H8.out.set 0 (.int .i64 r0)).set 1 (.int .u32 r1)
  have fr8 : Fr (fun q => q = w.heap.size + 1) w8 ((w8.setCell ⟨w.heap.size + 1, 0, none⟩ (.int .i64 r0)).setCell ⟨w.heap.size + 1, 1, none⟩ (.int .u32 r1)) := Fr.setCell (p := ⟨w.heap.size + 1, 1, none⟩) (Fr.setCell (p := ⟨w.heap.size + 1, 0, none⟩) (Fr.refl (fun q => q = w.heap.size + 1) w8) (Or.inl rfl) _) (Or.inl rfl) _
  have M8 := fr8.ext (XB.out.trans X8.out) (fun q e => by omega)
  generalize (w8.setCell ⟨w.heap.size + 1, 0, none⟩ (.int .i64 r0)).setCell ⟨w.heap.size + 1, 1, none⟩ (.int .u32 r1) = W7 at *
  have y0 : W7.cell? ⟨w.heap.size + 1, 0, none⟩ = some (.int .i64 r0) := L5.cell 0
  have y1 : W7.cell? ⟨w.heap.size + 1, 1, none⟩ = some (.int .u32 r1) := L5.cell 1
  exact bodyPost_ret (v := .agg #[.int .i64 r0, .int .u32 r1]) (by simp [results, Try.results18, go_sem, y0, y1]) rfl ⟨by rw [HR0.out, HR1.out], M8⟩
set_option maxRecDepth 100000 in
set_option maxHeartbeats 2000000 in
theorem do0_ok (w : World) (gs : Nat) (k a b : Int) (hk : ¬ (1 ≤ k ∧ k ≤ 8)) :
    Calls Try.prog 18 #[.pointer (some ⟨gs, 0, none⟩), .agg #[.int .i64 k, .int .u32 a, .int .u32 b]] w fun e w' => e = .returned (.agg #[.int .i64 0, .int .u32 0]) ∧ Ext w w' := by
  have e1 : (k == 1) = false := by rw [beq_eq_false_iff_ne]; omega
  have e2 : (k == 2) = false := by rw [beq_eq_false_iff_ne]; omega
  have e3 : (k == 3) = false := by rw [beq_eq_false_iff_ne]; omega
  have e4 : (k == 4) = false := by rw [beq_eq_false_iff_ne]; omega
  have e5 : (k == 5) = false := by rw [beq_eq_false_iff_ne]; omega
  have e6 : (k == 6) = false := by rw [beq_eq_false_iff_ne]; omega
  have e7 : (k == 7) = false := by rw [beq_eq_false_iff_ne]; omega
  have e8 : (k == 8) = false := by rw [beq_eq_false_iff_ne]; omega
  go_enter Try.func18, Try.ntmps18
  go_wp2_with fail
  exact bodyPost_ret (v := .agg #[.int .i64 0, .int .u32 0]) (by simp [results, Try.results18, go_sem]) rfl ⟨rfl, ext2 w _ _⟩
end Go.Proofs.Ythbngenjcgclgaa
