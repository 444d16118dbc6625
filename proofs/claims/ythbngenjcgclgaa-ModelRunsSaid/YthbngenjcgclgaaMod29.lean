/- Layer 8: model.do of kind 7; model.do of any kind, over a whole state. Conditions: those that each theorem names. -/
import Derived.Test.YthbngenjcgclgaaMod28
import Derived.Test.YthbngenjcgclgaaMod15
namespace Go.Proofs.Ythbngenjcgclgaa
open Go.ChangeShapes Go.WideShapes Go.ChangeAt Go.RowKit
set_option linter.unusedVariables false
set_option maxRecDepth 100000 in
set_option maxHeartbeats 2000000 in
theorem do7_ok (w : World) (gs : Nat) (qv sv v : Value) (B : Nat) (ps : List Pr) (a b : Int) (hb : Blk w gs 25 [qv, sv, v]) (h : PRow w B v ps) (hn : ps.length ≤ 1000000) :
    Calls Try.prog 18 #[.pointer (some ⟨gs, 0, none⟩), .agg #[.int .i64 7, .int .u32 a, .int .u32 b]] w fun e w' => e = .returned (.agg #[.int .i64 (toldK (hasP ps a) 3 4), .int .u32 (toldK (hasP ps a) (findP ps a).2 0)]) ∧ Ext w w' := by
  obtain ⟨A, c, rfl, hnc, hcm, hP⟩ := h.form
  have hgs := hb.lt
  have HB := Lib.hid hb
  have HFi := Lib.hid (fun (W : World) (x : Ext w W) => findP_ok W A ps.length c ps a rfl hn (hP.ext x))
  generalize ps.length = n at *
  generalize findP ps a = fp at *
  generalize hasP ps a = hp at *
  obtain ⟨fa, fb⟩ := fp
  simp only at HFi ⊢
  clear h hP hb
  have l0 := (Blk.new w 38 [.int .i64 7, .int .u32 a, .int .u32 b]).ext ((Ext.refl _).alloc (.cells #[.int .i64 0, .int .u32 0] 34))
  have l1 := Blk.new (w.alloc (.cells #[.int .i64 7, .int .u32 a, .int .u32 b] 38)) 34 [.int .i64 0, .int .u32 0]
  rw [show (w.alloc (.cells #[.int .i64 7, .int .u32 a, .int .u32 b] 38)).heap.size = w.heap.size + 1 by simp] at l1
  have XB := Lib.hid (((Ext.refl w).alloc (.cells #[.int .i64 7, .int .u32 a, .int .u32 b] 38)).alloc (.cells #[.int .i64 0, .int .u32 0] 34))
  have L0 := Lib.hid l0
  have L1 := Lib.hid l1
  clear l0 l1
  go_enter Try.func18, Try.ntmps18
  go_upto_region 20 with fail
  generalize (w.alloc (.cells #[.int .i64 7, .int .u32 a, .int .u32 b] 38)).alloc (.cells #[.int .i64 0, .int .u32 0] 34) = W0 at *
  have s0 := L0.out.lt
  have s1 := L1.out.lt
  have c1 : W0.cell? ⟨w.heap.size, 1, none⟩ = some (.int .u32 a) := L0.out.cell 1
  have c0 : W0.cell? ⟨gs, 2, none⟩ = some (.slice A n c) := (HB.out.ext XB.out).cell 2
  have s7 : gs < W0.heap.size := by omega
  have n0 : ¬ w.heap.size = W0.heap.size := by omega
  have n7 : ¬ gs = W0.heap.size := by omega
  go_cut [13, 14] (fun s8 s9 wx => ∃ g8 : Nat, s8 = .pointer (some ⟨g8, 0, none⟩) ∧ s9 = .bool hp ∧ Blk wx g8 46 [.int .u32 fa, .int .u32 fb] ∧ Ext W0 wx ∧ W0.heap.size ≤ g8)
  case first =>
    have xt : Ext w W0.drew := XB.out.drew
    have xa : Ext w (W0.alloc (.cells #[.int .u32 0, .int .u32 0] 46)).drew := (XB.out.alloc _).drew
    have BN := Lib.hid ((Blk.new W0 46 [.int .u32 0, .int .u32 0]).ext ((Ext.refl _).drew))
    have HC : Hid (∀ W, Ext W0 W → W.cell? ⟨gs, 2, none⟩ = some (.slice A n c) ∧ W.cell? ⟨w.heap.size, 1, none⟩ = some (.int .u32 a)) := Lib.hid (fun W x => ⟨(World.cell?_of_block (x.block gs s7)).trans c0, (World.cell?_of_block (x.block _ s0)).trans c1⟩)
    go_region_held3 (fun W => W.cell? ⟨gs, 2, none⟩ = some (.slice A n c) ∧ W.cell? ⟨w.heap.size, 1, none⟩ = some (.int .u32 a)) (first | (with_reducible exact HC.out _ (((Ext.refl W0).drew).trans X5.out)) | (with_reducible exact HC.out _ ((((Ext.refl W0).alloc _).drew).trans X5.out)) | (exact HC.out _ ((((Ext.refl W0).drew).trans X5.out).alloc _)) | (exact HC.out _ ((((((Ext.refl W0).alloc _).drew).trans X5.out).setCell (p := ⟨W0.heap.size, 0, none⟩) (Nat.le_refl _) _).setCell (p := ⟨W0.heap.size, 1, none⟩) (Nat.le_refl _) _)) | go_keep) (first
      | (go_at_call 29; refine (HFi.out _ (by with_reducible exact xt)).mono ?_; rintro e w5 ⟨rfl, x5⟩; have X5 := Lib.hid x5; clear x5)
      | (go_at_call 29; refine (HFi.out _ (by with_reducible exact xa)).mono ?_; rintro e w5 ⟨rfl, x5⟩; have b8 := BN.out.ext x5; have q0 : w5.cell? ⟨W0.heap.size, 0, none⟩ = some (.int .u32 0) := b8.cell 0; have q1 : w5.cell? ⟨W0.heap.size, 1, none⟩ = some (.int .u32 0) := b8.cell 1; have z0 : w5.frozen? ⟨W0.heap.size, 0, none⟩ = false := b8.frozen 0; have z1 : w5.frozen? ⟨W0.heap.size, 1, none⟩ = false := b8.frozen 1; have B8 := Lib.hid b8; have X5 := Lib.hid x5; clear x5 b8))
    all_goals
      go_wp2_with fail
      go_meet
      first
        | exact ⟨w5.heap.size, rfl, rfl, Blk.new w5 _ [.int .u32 fa, .int .u32 fb], (((Ext.refl W0).drew).trans X5.out).alloc _, X5.out.size⟩
        | exact ⟨W0.heap.size, rfl, rfl, (B8.out.set 0 (.int .u32 fa)).set 1 (.int .u32 fb), (((((Ext.refl W0).alloc _).drew).trans X5.out).setCell (p := ⟨W0.heap.size, 0, none⟩) (Nat.le_refl _) _).setCell (p := ⟨W0.heap.size, 1, none⟩) (Nat.le_refl _) _, Nat.le_refl _⟩
  case rest =>
    obtain ⟨g8, rfl, rfl, b8, x7, l8⟩ := hcut
    generalize wc = w7 at *
    have h1 := L1.out.ext x7
    have j1 : w7.cell? ⟨g8, 1, none⟩ = some (.int .u32 fb) := b8.cell 1
    have ht := told_ok hp 3 4 fb w7
    obtain ⟨r0, hr0⟩ : ∃ r, toldK hp 3 4 = r := ⟨_, rfl⟩
    obtain ⟨r1, hr1⟩ : ∃ r, toldK hp fb 0 = r := ⟨_, rfl⟩
    rw [hr0, hr1] at ht
    have HR0 := Lib.hid hr0
    have HR1 := Lib.hid hr1
    have HT := Lib.hid ht
    have H1 := Lib.hid h1
    have X7 := Lib.hid x7
    clear h1 x7 c1 c0 ht hr0 hr1 b8 HFi
    go_wp2_with fail
    refine HT.out.mono ?_
    rintro e w8 ⟨rfl, x8⟩
    have h8 := H1.out.ext x8
    have X8 := Lib.hid (X7.out.trans x8)
    clear x8 j1
    have t0 : w8.cell? ⟨w.heap.size + 1, 0, none⟩ = some (.int .i64 0) := h8.cell 0
    have t1 : w8.cell? ⟨w.heap.size + 1, 1, none⟩ = some (.int .u32 0) := h8.cell 1
    have f0 : w8.frozen? ⟨w.heap.size + 1, 0, none⟩ = false := h8.frozen 0
    have f1 : w8.frozen? ⟨w.heap.size + 1, 1, none⟩ = false := h8.frozen 1
    have H8 := Lib.hid h8
    clear h8
    go_wp2_with fail
    have L5 : Blk ((w8.setCell ⟨w.heap.size + 1, 0, none⟩ (.int .i64 r0)).setCell ⟨w.heap.size + 1, 1, none⟩ (.int .u32 r1)) (w.heap.size + 1) 34 [.int .i64 r0, .int .u32 r1] := (H8.out.set 0 (.int .i64 r0)).set 1 (.int .u32 r1)
    have fr8 : Fr (fun q => q = w.heap.size + 1) w8 ((w8.setCell ⟨w.heap.size + 1, 0, none⟩ (.int .i64 r0)).setCell ⟨w.heap.size + 1, 1, none⟩ (.int .u32 r1)) := Fr.setCell (p := ⟨w.heap.size + 1, 1, none⟩) (Fr.setCell (p := ⟨w.heap.size + 1, 0, none⟩) (Fr.refl (fun q => q = w.heap.size + 1) w8) (Or.inl rfl) _) (Or.inl rfl) _
    have M8 := fr8.ext (XB.out.trans X8.out) (fun q e => by omega)
    generalize (w8.setCell ⟨w.heap.size + 1, 0, none⟩ (.int .i64 r0)).setCell ⟨w.heap.size + 1, 1, none⟩ (.int .u32 r1) = W7 at *
    have y0 : W7.cell? ⟨w.heap.size + 1, 0, none⟩ = some (.int .i64 r0) := L5.cell 0
    have y1 : W7.cell? ⟨w.heap.size + 1, 1, none⟩ = some (.int .u32 r1) := L5.cell 1
    exact bodyPost_ret (v := .agg #[.int .i64 r0, .int .u32 r1]) (by simp [results, Try.results18, go_sem, y0, y1]) rfl ⟨by rw [HR0.out, HR1.out], M8⟩
theorem did_none {w0 w w' : World} {gs : Nat} {qv sv mv : Value} {st : Sta} (x : Ext w0 w) (h : Own w w0.heap.size gs qv sv mv st) (k : Ext w w') : DidTo w0 w gs qv sv mv st w' :=
  ⟨qv, sv, mv, h.ext k, x.trans k, fun g hg _ ha => ⟨k.block g hg, ha⟩, k.size⟩
/-- Where a number belongs among numbers. -/
def posI (ps : List Int) (a : Int) : Nat := if idxPI ps (PutI a) = -1 then ps.length else (idxPI ps (PutI a)).toNat
def posP (ps : List Pr) (a : Int) : Nat := if idxP ps (PutP a) = -1 then ps.length else (idxP ps (PutP a)).toNat
/-- What model.do leaves, and what it tells. -/
def doS (st : Sta) (k a b : Int) : Sta × Rs :=
  if k = 1 then (⟨st.q ++ [b], st.s, st.m⟩, (1, 0))
  else if k = 2 then (match st.q with
    | [] => (st, (2, 0))
    | z :: zs => (⟨zs, st.s, st.m⟩, (1, z)))
  else if k = 3 then (if hasI st.s a = true then (st, (3, 0)) else (⟨st.q, insI st.s (posI st.s a) a, st.m⟩, (1, 0)))
  else if k = 4 then (⟨st.q, leftI (CutI a) st.s, st.m⟩, (toldK (hasI st.s a) 1 4, 0))
  else if k = 5 then (st, (toldK (hasI st.s a) 3 4, 0))
  else if k = 6 then (if hasP st.m a = true then (st, (3, (findP st.m a).2)) else (⟨st.q, st.s, insP st.m (posP st.m a) (a, b)⟩, (1, 0)))
  else if k = 7 then (st, (toldK (hasP st.m a) 3 4, toldK (hasP st.m a) (findP st.m a).2 0))
  else if k = 8 then (⟨st.q, st.s, left (CutP a) st.m⟩, (toldK (hasP st.m a) 1 4, toldK (hasP st.m a) (findP st.m a).2 0))
  else (st, (0, 0))
structure Small (st : Sta) (n : Nat) : Prop where
  q : st.q.length ≤ n
  s : st.s.length ≤ n
  m : st.m.length ≤ n
theorem told_00 (b : Bool) : toldK b 0 0 = 0 := by cases b <;> rfl
section
variable {w0 W : World} {gs : Nat} {qv sv mv : Value} {st : Sta}
theorem Own.slt (h : Own W w0.heap.size gs qv sv mv st) : ∀ q, sv.ownBlock = some q → q < W.heap.size := fun q e => (h.parts.lt q (Or.inr (Or.inl e))).2
theorem Own.qlt (h : Own W w0.heap.size gs qv sv mv st) : ∀ q, qv.ownBlock = some q → q < W.heap.size := fun q e => (h.parts.lt q (Or.inl e)).2
theorem do_ok (x : Ext w0 W) (own : Own W w0.heap.size gs qv sv mv st) (sm : Small st 1000000) (k a b : Int) :
    Calls Try.prog 18 #[.pointer (some ⟨gs, 0, none⟩), .agg #[.int .i64 k, .int .u32 a, .int .u32 b]] W fun e w' => e = .returned (.agg #[.int .i64 (doS st k a b).2.1, .int .u32 (doS st k a b).2.2]) ∧ DidTo w0 W gs qv sv mv (doS st k a b).1 w' := by
  by_cases h1 : k = 1
  · subst h1
    have e : doS st 1 a b = (⟨st.q ++ [b], st.s, st.m⟩, (1, 0)) := rfl
    rw [e]
    exact (do1_ok w0 W gs qv sv mv st.q a b x own.blk own.parts.q own.low sm.q).mono fun e w' ⟨he, hk⟩ => ⟨he, did_que own hk⟩
  by_cases h2 : k = 2
  · subst h2
    obtain ⟨q, s, m⟩ := st
    cases q with
    | nil =>
      have e : doS ⟨[], s, m⟩ 2 a b = (⟨[], s, m⟩, (2, 0)) := rfl
      rw [e]
      exact (do2_of w0 W gs qv sv mv [] a b 2 0 x own.blk.lt own.qlt (fun W' x' => take_none w0 W' gs qv sv mv (x.trans x') (own.ext x').blk (own.ext x').parts.q)).mono fun e w' ⟨he, hk⟩ => ⟨he, did_que own hk⟩
    | cons z zs =>
      have e : doS ⟨z :: zs, s, m⟩ 2 a b = (⟨zs, s, m⟩, (1, z)) := rfl
      rw [e]
      have hz : zs.length ≤ 1000000 := by have := sm.q; simp only [List.length_cons] at this; omega
      exact (do2_of w0 W gs qv sv mv zs a b 1 z x own.blk.lt own.qlt (fun W' x' => take_some w0 W' gs qv sv mv z zs (x.trans x') (own.ext x').blk (own.ext x').parts.q own.low hz)).mono fun e w' ⟨he, hk⟩ => ⟨he, did_que own hk⟩
  by_cases h3 : k = 3
  · subst h3
    by_cases hh : hasI st.s a = true
    · have e : doS st 3 a b = (st, (3, 0)) := by unfold doS; simp [hh]
      rw [e]
      exact (do3_of w0 W gs qv sv mv st.s a b a true x own.blk.lt own.slt (fun W' x' => put32_there w0 W' gs qv sv mv st.s a (x.trans x') (own.ext x').blk (own.ext x').parts.s sm.s own.low hh)).mono fun e w' ⟨he, hk⟩ => ⟨he, did_set own hk⟩
    · have hf : hasI st.s a = false := by simpa using hh
      have e : doS st 3 a b = (⟨st.q, insI st.s (posI st.s a) a, st.m⟩, (1, 0)) := by unfold doS; simp [hf]
      rw [e]
      by_cases hi : idxPI st.s (PutI a) = -1
      · have hp : posI st.s a = st.s.length := by unfold posI; rw [if_pos hi]
        rw [hp]
        exact (do3_of w0 W gs qv sv mv (insI st.s st.s.length a) a b 0 false x own.blk.lt own.slt (fun W' x' => put32_end w0 W' gs qv sv mv st.s a (x.trans x') (own.ext x').blk (own.ext x').parts.s sm.s own.low st.s.length (Nat.le_refl _) hf hi rfl)).mono fun e w' ⟨he, hk⟩ => ⟨he, did_set own hk⟩
      · obtain ⟨i, hi', hil, _, _⟩ := idxPI_yes (PutI a) st.s (by have := (idxPI_ge (PutI a) st.s).1; omega)
        have hp : posI st.s a = i := by unfold posI; rw [if_neg hi, hi']; rfl
        rw [hp]
        exact (do3_of w0 W gs qv sv mv (insI st.s i a) a b 0 false x own.blk.lt own.slt (fun W' x' => put32_mid w0 W' gs qv sv mv st.s a (x.trans x') (own.ext x').blk (own.ext x').parts.s sm.s own.low i (Nat.le_of_lt hil) hf hi' hil)).mono fun e w' ⟨he, hk⟩ => ⟨he, did_set own hk⟩
  by_cases h4 : k = 4
  · subst h4
    have e : doS st 4 a b = (⟨st.q, leftI (CutI a) st.s, st.m⟩, (toldK (hasI st.s a) 1 4, 0)) := rfl
    rw [e]
    exact (do4_of w0 W gs qv sv mv (leftI (CutI a) st.s) a b (foundI st.s a) (hasI st.s a) x own.blk.lt own.slt (fun W' x' => cut32_ok w0 W' gs qv sv mv st.s a (x.trans x') (own.ext x').blk (own.ext x').parts.s sm.s own.low)).mono fun e w' ⟨he, hk⟩ => ⟨by rw [told_00] at he; exact he, did_set own hk⟩
  by_cases h5 : k = 5
  · subst h5
    have e : doS st 5 a b = (st, (toldK (hasI st.s a) 3 4, 0)) := rfl
    rw [e]
    exact (do5_ok W gs qv sv mv w0.heap.size st.s a b own.blk own.parts.s sm.s).mono fun e w' ⟨he, hk⟩ => ⟨by rw [told_00] at he; exact he, did_none x own hk⟩
  by_cases h6 : k = 6
  · subst h6
    by_cases hh : hasP st.m a = true
    · have e : doS st 6 a b = (st, (3, (findP st.m a).2)) := by unfold doS; simp [hh]
      rw [e]
      exact do6_there x own sm.m a b hh
    · have hf : hasP st.m a = false := by simpa using hh
      have e : doS st 6 a b = (⟨st.q, st.s, insP st.m (posP st.m a) (a, b)⟩, (1, 0)) := by unfold doS; simp [hf]
      rw [e]
      by_cases hi : idxP st.m (PutP a) = -1
      · have hp : posP st.m a = st.m.length := by unfold posP; rw [if_pos hi]
        rw [hp, insP_end]
        exact do6_end x own sm.m a b hf hi
      · obtain ⟨i, hi', hil, _, _⟩ := idxP_yes (PutP a) st.m (by have := (idxP_ge (PutP a) st.m).1; omega)
        have hp : posP st.m a = i := by unfold posP; rw [if_neg hi, hi']; rfl
        rw [hp]
        exact (do6_of w0 W gs qv sv mv (insP st.m i (a, b)) a b (findP st.m a).1 (findP st.m a).2 false x own.blk.lt own.mlt (fun W' x' => putP_mapMid (x.trans x') (own.ext x').blk (own.ext x').parts.m sm.m own.low a b hf i hi' hil)).mono fun e w' ⟨he, hm⟩ => ⟨he, did_map own hm⟩
  by_cases h7 : k = 7
  · subst h7
    have e : doS st 7 a b = (st, (toldK (hasP st.m a) 3 4, toldK (hasP st.m a) (findP st.m a).2 0)) := rfl
    rw [e]
    exact (do7_ok W gs qv sv mv w0.heap.size st.m a b own.blk own.parts.m sm.m).mono fun e w' ⟨he, hk⟩ => ⟨he, did_none x own hk⟩
  by_cases h8 : k = 8
  · subst h8
    have e : doS st 8 a b = (⟨st.q, st.s, left (CutP a) st.m⟩, (toldK (hasP st.m a) 1 4, toldK (hasP st.m a) (findP st.m a).2 0)) := rfl
    rw [e]
    exact do8_any x own sm.m a b
  have e : doS st k a b = (st, (0, 0)) := by unfold doS; simp [h1, h2, h3, h4, h5, h6, h7, h8]
  rw [e]
  exact (do0_ok W gs k a b (by omega)).mono fun e w' ⟨he, hk⟩ => ⟨he, did_none x own hk⟩
end
end Go.Proofs.Ythbngenjcgclgaa
