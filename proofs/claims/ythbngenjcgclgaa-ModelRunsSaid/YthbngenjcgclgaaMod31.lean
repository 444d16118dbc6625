/- Layer 8: model.Run and model.Apply of any operations; Kind, Looks, Takes. Conditions: those that each theorem names. -/
import Derived.Test.YthbngenjcgclgaaMod30
namespace Go.Proofs.Ythbngenjcgclgaa
open Go.ChangeShapes Go.WideShapes Go.ChangeAt Go.RowKit
set_option linter.unusedVariables false
theorem posI_le (ps : List Int) (a : Int) : posI ps a ≤ ps.length := by
  unfold posI
  have := idxPI_ge (PutI a) ps
  split
  · exact Nat.le_refl _
  · omega
theorem posP_le (ps : List Pr) (a : Int) : posP ps a ≤ ps.length := by
  unfold posP
  have := idxP_ge (PutP a) ps
  split
  · exact Nat.le_refl _
  · omega
theorem leftI_le (f : Int → Bool) (l : List Int) : (leftI f l).length ≤ l.length := List.length_filter_le _ _
theorem left_le (f : Pr → Bool) (l : List Pr) : (left f l).length ≤ l.length := List.length_filter_le _ _
theorem Small.mono {st : Sta} {n m : Nat} (h : Small st n) (hn : n ≤ m) : Small st m := ⟨Nat.le_trans h.q hn, Nat.le_trans h.s hn, Nat.le_trans h.m hn⟩
theorem small_do {st : Sta} {n : Nat} (h : Small st n) (k a b : Int) : Small (doS st k a b).1 (n + 1) := by
  obtain ⟨q, s, m⟩ := st
  obtain ⟨hq, hs, hm⟩ := h
  simp only at hq hs hm
  have e0 : Small ⟨q, s, m⟩ (n + 1) := ⟨by show q.length ≤ _; omega, by show s.length ≤ _; omega, by show m.length ≤ _; omega⟩
  unfold doS
  split
  · exact ⟨by simp; omega, by show s.length ≤ _; omega, by show m.length ≤ _; omega⟩
  split
  · cases q with
    | nil => exact e0
    | cons z zs => exact ⟨by simp at hq ⊢; omega, by show s.length ≤ _; omega, by show m.length ≤ _; omega⟩
  split
  · split
    · exact e0
    · refine ⟨by show q.length ≤ _; omega, ?_, by show m.length ≤ _; omega⟩
      show (insI s (posI s a) a).length ≤ _
      rw [insI_len _ _ _ (posI_le s a)]
      omega
  split
  · refine ⟨by show q.length ≤ _; omega, ?_, by show m.length ≤ _; omega⟩
    have := leftI_le (CutI a) s
    show (leftI (CutI a) s).length ≤ _
    omega
  split
  · exact e0
  split
  · split
    · exact e0
    · refine ⟨by show q.length ≤ _; omega, by show s.length ≤ _; omega, ?_⟩
      show (insP m (posP m a) (a, b)).length ≤ _
      rw [insP_len _ _ _ (posP_le m a)]
      omega
  split
  · exact e0
  split
  · refine ⟨by show q.length ≤ _; omega, by show s.length ≤ _; omega, ?_⟩
    have := left_le (CutP a) m
    show (left (CutP a) m).length ≤ _
    omega
  · exact e0
/-- The state behind so many operations. -/
def runS (st : Sta) (ops : List O3) : Nat → Sta
  | 0 => st
  | k + 1 => (doS (runS st ops k) (ops.getD k (0, 0, 0)).1 (ops.getD k (0, 0, 0)).2.1 (ops.getD k (0, 0, 0)).2.2).1
def runR (st : Sta) (ops : List O3) (k : Nat) : Rs := (doS (runS st ops k) (ops.getD k (0, 0, 0)).1 (ops.getD k (0, 0, 0)).2.1 (ops.getD k (0, 0, 0)).2.2).2
theorem small_run {st : Sta} {n : Nat} (h : Small st n) (ops : List O3) : ∀ k, Small (runS st ops k) (n + k)
  | 0 => h
  | k + 1 => small_do (small_run h ops k) _ _ _
theorem run_ok (w : World) (A0 A1 A2 A : Option Addr) (n0 n1 n2 c0 c1 c2 n c : Nat) (st : Sta) (ops : List O3) (h : StAt w A0 A1 A2 st) (hl : Lens st n0 n1 n2) (m0 : n0 ≤ 1000) (m1 : n1 ≤ 1000) (m2 : n2 ≤ 1000) (hol : ops.length = n) (hn : n ≤ 1000) (ho : OAt w A ops) :
    Calls Try.prog 8 #[.agg #[.slice A0 n0 c0, .slice A1 n1 c1, .slice A2 n2 c2], .slice A n c] w (RunPost w (runS st ops n) (upto (runR st ops) n)) := by
  have sm : Small st 1000 := ⟨by rw [hl.q]; exact m0, by rw [hl.s]; exact m1, by rw [hl.m]; exact m2⟩
  refine run_of w A0 A1 A2 A n0 n1 n2 c0 c1 c2 n c ops (runS st ops) (runR st ops) hol hn ho ?_ ?_
  · intro W x
    exact cloned_ok W A0 A1 A2 n0 n1 n2 c0 c1 c2 st (h.ext x) hl (by omega) (by omega) (by omega)
  · intro k hk W gs qv sv mv x own
    exact do_ok x own ((small_run sm ops k).mono (by omega)) _ _ _
/-- Blocks that were there ahead of a call, and are none of its argument's parts. -/
def OldB (w : World) (A0 A1 A2 : Option Addr) (n0 n1 n2 : Nat) (g : Nat) : Prop := g < w.heap.size ∧ (0 < n0 → ∀ ad, A0 = some ad → ad.block ≠ g) ∧ (0 < n1 → ∀ ad, A1 = some ad → ad.block ≠ g) ∧ (0 < n2 → ∀ ad, A2 = some ad → ad.block ≠ g)
/-- A state that stays, whatever becomes of such blocks. -/
def StF (w w' : World) (A0 A1 A2 : Option Addr) (n0 n1 n2 : Nat) (B0 B1 B2 : Option Addr) (st : Sta) : Prop := ∀ w'', Fr (OldB w A0 A1 A2 n0 n1 n2) w' w'' → StAt w'' B0 B1 B2 st
theorem ints_frN {S : Nat → Prop} {a b : World} {k : IntKind} {A : Option Addr} {zs : List Int} (h : Ints a k A zs) (x : Fr S a b) (hS : 0 < zs.length → ∀ ad, A = some ad → ¬ S ad.block) : Ints b k A zs := fun hn => (h.fr x (hS hn)) hn
theorem pat_frN {S : Nat → Prop} {a b : World} {A : Option Addr} {ps : List Pr} (h : PAt a A ps) (x : Fr S a b) (hS : 0 < ps.length → ∀ ad, A = some ad → ¬ S ad.block) : PAt b A ps := fun hn => (h.fr x (hS hn)) hn
theorem stF_old {w a b : World} {A0 A1 A2 : Option Addr} {n0 n1 n2 : Nat} {st : Sta} (hl : Lens st n0 n1 n2) (h : StAt a A0 A1 A2 st) (f : Fr (OldB w A0 A1 A2 n0 n1 n2) a b) : StAt b A0 A1 A2 st :=
  ⟨ints_frN h.q f (fun h0 ad e hs => hs.2.1 (by rw [← hl.q]; exact h0) ad e rfl), ints_frN h.s f (fun h0 ad e hs => hs.2.2.1 (by rw [← hl.s]; exact h0) ad e rfl), pat_frN h.m f (fun h0 ad e hs => hs.2.2.2 (by rw [← hl.m]; exact h0) ad e rfl)⟩
/-- Where a part lies that was handed back: where the argument's lies, or behind all that was there. -/
def NearP (w : World) (A : Option Addr) (n : Nat) (B : Option Addr) (m : Nat) : Prop := 0 < m → ∀ ad, B = some ad → (0 < n ∧ ∃ a0, A = some a0 ∧ ad.block = a0.block) ∨ w.heap.size ≤ ad.block
/-- What Apply leaves; its state has no block of old. -/
def AppPostF (w : World) (st' : Sta) (r : Rs) (e : Ending) (w' : World) : Prop := ∃ (B0 B1 B2 : Option Addr) (d0 d1 d2 : Nat), e = .returned (.tuple #[.agg #[.slice B0 st'.q.length d0, .slice B1 st'.s.length d1, .slice B2 st'.m.length d2], .agg #[.int .i64 r.1, .int .u32 r.2]]) ∧ (∀ w'', Fr (fun q => q < w.heap.size) w' w'' → StAt w'' B0 B1 B2 st') ∧ (∀ ad, B0 = some ad ∨ B1 = some ad ∨ B2 = some ad → w.heap.size ≤ ad.block) ∧ Ext w w'
/-- What Apply leaves. -/
def AppPost (w : World) (st' : Sta) (r : Rs) (e : Ending) (w' : World) : Prop := ∃ (B0 B1 B2 : Option Addr) (d0 d1 d2 : Nat), e = .returned (.tuple #[.agg #[.slice B0 st'.q.length d0, .slice B1 st'.s.length d1, .slice B2 st'.m.length d2], .agg #[.int .i64 r.1, .int .u32 r.2]]) ∧ StAt w' B0 B1 B2 st' ∧ Ext w w'
set_option maxRecDepth 100000 in
set_option maxHeartbeats 2000000 in
theorem applyF_ok (w : World) (A0 A1 A2 : Option Addr) (n0 n1 n2 c0 c1 c2 : Nat) (st : Sta) (k a b : Int) (h : StAt w A0 A1 A2 st) (hl : Lens st n0 n1 n2) (m0 : n0 ≤ 1000) (m1 : n1 ≤ 1000) (m2 : n2 ≤ 1000) :
    Calls Try.prog 9 #[.agg #[.slice A0 n0 c0, .slice A1 n1 c1, .slice A2 n2 c2], .agg #[.int .i64 k, .int .u32 a, .int .u32 b]] w (AppPostF w (doS st k a b).1 (doS st k a b).2) := by
  have mixed : Try.prog.follows .mixedOrders = true := by kernel_rfl
  have sm : Small st 1000 := ⟨by rw [hl.q]; exact m0, by rw [hl.s]; exact m1, by rw [hl.m]; exact m2⟩
  have SM := Lib.hid (sm.mono (show 1000 ≤ 1000000 by omega))
  have HS := Lib.hid h
  have HLL := Lib.hid hl
  clear sm h hl
  obtain ⟨st', hst'⟩ : ∃ s, (doS st k a b).1 = s := ⟨_, rfl⟩
  obtain ⟨r, hr⟩ : ∃ r, (doS st k a b).2 = r := ⟨_, rfl⟩
  have HD : Hid (∀ (W : World) (gs : Nat) (qv sv mv : Value), Ext w W → Own W w.heap.size gs qv sv mv st → Calls Try.prog 18 #[.pointer (some ⟨gs, 0, none⟩), .agg #[.int .i64 k, .int .u32 a, .int .u32 b]] W fun e w' => e = .returned (.agg #[.int .i64 r.1, .int .u32 r.2]) ∧ DidTo w W gs qv sv mv st' w') := Lib.hid (fun W gs qv sv mv x own => by
    have := do_ok x own SM.out k a b
    rw [hst', hr] at this
    exact this)
  rw [hst', hr]
  clear hst' hr
  obtain ⟨r0, r1⟩ := r
  simp only at HD
  have hb := ((((Blk.new w 25 [.slice A0 n0 c0, .slice A1 n1 c1, .slice A2 n2 c2]).ext ((Ext.refl _).alloc (.cells #[.int .i64 k, .int .u32 a, .int .u32 b] 38))).ext ((Ext.refl _).alloc (.cells #[.slice none 0 0, .slice none 0 0, .slice none 0 0] 25))).ext ((Ext.refl _).alloc (.cells #[.int .i64 0, .int .u32 0] 34)))
  have l1 := ((Blk.new (w.alloc (.cells #[.slice A0 n0 c0, .slice A1 n1 c1, .slice A2 n2 c2] 25)) 38 [.int .i64 k, .int .u32 a, .int .u32 b]).ext ((Ext.refl _).alloc (.cells #[.slice none 0 0, .slice none 0 0, .slice none 0 0] 25))).ext ((Ext.refl _).alloc (.cells #[.int .i64 0, .int .u32 0] 34))
  have l2 := (Blk.new ((w.alloc (.cells #[.slice A0 n0 c0, .slice A1 n1 c1, .slice A2 n2 c2] 25)).alloc (.cells #[.int .i64 k, .int .u32 a, .int .u32 b] 38)) 25 [.slice none 0 0, .slice none 0 0, .slice none 0 0]).ext ((Ext.refl _).alloc (.cells #[.int .i64 0, .int .u32 0] 34))
  have l3 := Blk.new (((w.alloc (.cells #[.slice A0 n0 c0, .slice A1 n1 c1, .slice A2 n2 c2] 25)).alloc (.cells #[.int .i64 k, .int .u32 a, .int .u32 b] 38)).alloc (.cells #[.slice none 0 0, .slice none 0 0, .slice none 0 0] 25)) 34 [.int .i64 0, .int .u32 0]
  have X0 := Lib.hid (((((Ext.refl w).alloc (.cells #[.slice A0 n0 c0, .slice A1 n1 c1, .slice A2 n2 c2] 25)).alloc (.cells #[.int .i64 k, .int .u32 a, .int .u32 b] 38)).alloc (.cells #[.slice none 0 0, .slice none 0 0, .slice none 0 0] 25)).alloc (.cells #[.int .i64 0, .int .u32 0] 34))
  simp only [World.size_alloc] at l1 l2 l3
  have L1 := Lib.hid l1
  have L2 := Lib.hid l2
  have L3 := Lib.hid l3
  clear hb l1 l2 l3
  go_enter Try.func9, Try.ntmps9
  go_wp2_with fail
  refine (cloned_ok _ A0 A1 A2 n0 n1 n2 c0 c1 c2 st (HS.out.ext X0.out) HLL.out (by omega) (by omega) (by omega)).mono ?_
  rintro e w1 ⟨qv, sv, mv, rfl, x1, p1⟩
  have P1 := Lib.hid (p1.mono X0.out.size)
  obtain ⟨q0, q1, q2, d0, d1, d2, rfl, rfl, rfl, -⟩ := P1.out.view
  have e2 := (Ext.refl w1).alloc (.cells #[.slice q0 st.q.length d0, .slice q1 st.s.length d1, .slice q2 st.m.length d2] 25)
  have OW : Hid (Own (w1.alloc (.cells #[.slice q0 st.q.length d0, .slice q1 st.s.length d1, .slice q2 st.m.length d2] 25)) w.heap.size w1.heap.size (.slice q0 st.q.length d0) (.slice q1 st.s.length d1) (.slice q2 st.m.length d2) st) := Lib.hid ⟨Blk.new w1 _ _, (X0.out.trans x1).size, P1.out.ext e2⟩
  have m1' := (L1.out.ext x1).ext e2
  have M2 := Lib.hid ((L2.out.ext x1).ext e2)
  have M3 := Lib.hid ((L3.out.ext x1).ext e2)
  have X2 := Lib.hid ((X0.out.trans x1).trans e2)
  have j0 : (w1.alloc (.cells #[.slice q0 st.q.length d0, .slice q1 st.s.length d1, .slice q2 st.m.length d2] 25)).cell? ⟨w.heap.size + 1, 0, none⟩ = some (.int .i64 k) := m1'.cell 0
  have j1 : (w1.alloc (.cells #[.slice q0 st.q.length d0, .slice q1 st.s.length d1, .slice q2 st.m.length d2] 25)).cell? ⟨w.heap.size + 1, 1, none⟩ = some (.int .u32 a) := m1'.cell 1
  have j2 : (w1.alloc (.cells #[.slice q0 st.q.length d0, .slice q1 st.s.length d1, .slice q2 st.m.length d2] 25)).cell? ⟨w.heap.size + 1, 2, none⟩ = some (.int .u32 b) := m1'.cell 2
  have hs1 : w.heap.size + 1 + 1 + 1 < w1.heap.size := (L3.out.ext x1).lt
  clear m1' x1 p1 e2
  go_wp2_with fail
  refine (HD.out _ w1.heap.size _ _ _ X2.out OW.out).mono ?_
  rintro e w3 ⟨rfl, qv', sv', mv', d⟩
  have hsz : (w1.alloc (.cells #[.slice q0 st.q.length d0, .slice q1 st.s.length d1, .slice q2 st.m.length d2] 25)).heap.size = w1.heap.size + 1 := by simp
  have N2 : Blk w3 (w.heap.size + 1 + 1) 25 [.slice none 0 0, .slice none 0 0, .slice none 0 0] := (d.fr _ M2.out.lt (by omega) (OW.out.parts.apart_of M2.out (by decide) (by decide))).1.trans M2.out
  have N3 : Blk w3 (w.heap.size + 1 + 1 + 1) 34 [.int .i64 0, .int .u32 0] := (d.fr _ M3.out.lt (by omega) (OW.out.parts.apart_of M3.out (by decide) (by decide))).1.trans M3.out
  obtain ⟨u0, u1, u2, f0, f1, f2, rfl, rfl, rfl, sa⟩ := d.own.parts.view
  have hsd := d.size
  rw [hsz] at hsd
  have e4 := (Ext.refl w3).alloc (.cells #[.int .i64 r0, .int .u32 r1] 34)
  have G0 := d.own.blk.ext e4
  have G1 := Blk.new w3 34 [.int .i64 r0, .int .u32 r1]
  have G2 := N2.ext e4
  have G3 := N3.ext e4
  have X4 := Lib.hid (d.ext.trans e4)
  have SA := Lib.hid (sa.ext e4)
  have PA := Lib.hid (d.own.parts.ext e4)
  have hw3 : w1.heap.size + 1 ≤ w3.heap.size := hsd
  clear d sa N2 N3 e4 j0 j1 j2 M2 M3 OW X2 hsd hsz
  go_upto_region 3 with fail
  obtain ⟨E0, hE0⟩ : ∃ n, st'.q.length = n := ⟨_, rfl⟩
  obtain ⟨E1, hE1⟩ : ∃ n, st'.s.length = n := ⟨_, rfl⟩
  obtain ⟨E2, hE2⟩ : ∃ n, st'.m.length = n := ⟨_, rfl⟩
  rw [hE0, hE1, hE2] at G0 PA
  have HE0 := Lib.hid hE0
  have HE1 := Lib.hid hE1
  have HE2 := Lib.hid hE2
  clear hE0 hE1 hE2
  generalize w3.alloc (.cells #[.int .i64 r0, .int .u32 r1] 34) = W4 at *
  have a0 : W4.cell? ⟨w1.heap.size, 0, none⟩ = some (.slice u0 E0 f0) := G0.cell 0
  have a1 : W4.cell? ⟨w1.heap.size, 1, none⟩ = some (.slice u1 E1 f1) := G0.cell 1
  have a2 : W4.cell? ⟨w1.heap.size, 2, none⟩ = some (.slice u2 E2 f2) := G0.cell 2
  have b0 : W4.cell? ⟨w3.heap.size, 0, none⟩ = some (.int .i64 r0) := G1.cell 0
  have b1 : W4.cell? ⟨w3.heap.size, 1, none⟩ = some (.int .u32 r1) := G1.cell 1
  have c20 : W4.cell? ⟨w.heap.size + 1 + 1, 0, none⟩ = some (.slice none 0 0) := G2.cell 0
  have c21 : W4.cell? ⟨w.heap.size + 1 + 1, 1, none⟩ = some (.slice none 0 0) := G2.cell 1
  have c22 : W4.cell? ⟨w.heap.size + 1 + 1, 2, none⟩ = some (.slice none 0 0) := G2.cell 2
  have z20 : W4.frozen? ⟨w.heap.size + 1 + 1, 0, none⟩ = false := G2.frozen 0
  have z21 : W4.frozen? ⟨w.heap.size + 1 + 1, 1, none⟩ = false := G2.frozen 1
  have z22 : W4.frozen? ⟨w.heap.size + 1 + 1, 2, none⟩ = false := G2.frozen 2
  have c30 : W4.cell? ⟨w.heap.size + 1 + 1 + 1, 0, none⟩ = some (.int .i64 0) := G3.cell 0
  have c31 : W4.cell? ⟨w.heap.size + 1 + 1 + 1, 1, none⟩ = some (.int .u32 0) := G3.cell 1
  have z30 : W4.frozen? ⟨w.heap.size + 1 + 1 + 1, 0, none⟩ = false := G3.frozen 0
  have z31 : W4.frozen? ⟨w.heap.size + 1 + 1 + 1, 1, none⟩ = false := G3.frozen 1
  have n1 : ¬ w.heap.size + 1 + 1 = w1.heap.size := by omega
  have n2 : ¬ w.heap.size + 1 + 1 = w3.heap.size := by omega
  have n3 : ¬ w.heap.size + 1 + 1 + 1 = w1.heap.size := by omega
  have n4 : ¬ w.heap.size + 1 + 1 + 1 = w3.heap.size := by omega
  have n5 : ¬ w.heap.size + 1 + 1 = w.heap.size + 1 + 1 + 1 := by omega
  have n6 : ¬ w.heap.size + 1 + 1 + 1 = w.heap.size + 1 + 1 := by omega
  have n7 : ¬ w1.heap.size = w.heap.size + 1 + 1 := by omega
  have n8 : ¬ w3.heap.size = w.heap.size + 1 + 1 := by omega
  have n9 : ¬ w1.heap.size = w.heap.size + 1 + 1 + 1 := by omega
  have n10 : ¬ w3.heap.size = w.heap.size + 1 + 1 + 1 := by omega
  have AP := Lib.hid (PA.out.apart_of G2 (by decide) (by decide))
  have AQ := Lib.hid (PA.out.apart_of G3 (by decide) (by decide))
  have HG2 := Lib.hid G2
  have HG3 := Lib.hid G3
  clear G0 G1 G2 G3 P1
  go_region_with (fail)
  all_goals
    go_wp2_with fail
    have L2' := (((((HG2.out.set 0 (.slice u0 E0 f0)).set 1 (.slice u1 E1 f1)).set 2 (.slice u2 E2 f2)).far (p := ⟨w.heap.size + 1 + 1 + 1, 0, none⟩) n5 (.int .i64 r0)).far (p := ⟨w.heap.size + 1 + 1 + 1, 1, none⟩) n5 (.int .u32 r1))
    have L3' := (((((HG3.out.far (p := ⟨w.heap.size + 1 + 1, 0, none⟩) n6 (.slice u0 E0 f0)).far (p := ⟨w.heap.size + 1 + 1, 1, none⟩) n6 (.slice u1 E1 f1)).far (p := ⟨w.heap.size + 1 + 1, 2, none⟩) n6 (.slice u2 E2 f2)).set 0 (.int .i64 r0)).set 1 (.int .u32 r1))
    have fz : Fr (fun q => q = w.heap.size + 1 + 1 ∨ q = w.heap.size + 1 + 1 + 1) W4 (((((W4.setCell ⟨w.heap.size + 1 + 1, 0, none⟩ (.slice u0 E0 f0)).setCell ⟨w.heap.size + 1 + 1, 1, none⟩ (.slice u1 E1 f1)).setCell ⟨w.heap.size + 1 + 1, 2, none⟩ (.slice u2 E2 f2)).setCell ⟨w.heap.size + 1 + 1 + 1, 0, none⟩ (.int .i64 r0)).setCell ⟨w.heap.size + 1 + 1 + 1, 1, none⟩ (.int .u32 r1)) := Fr.setCell (p := ⟨w.heap.size + 1 + 1 + 1, 1, none⟩) (Fr.setCell (p := ⟨w.heap.size + 1 + 1 + 1, 0, none⟩) (Fr.setCell (p := ⟨w.heap.size + 1 + 1, 2, none⟩) (Fr.setCell (p := ⟨w.heap.size + 1 + 1, 1, none⟩) (Fr.setCell (p := ⟨w.heap.size + 1 + 1, 0, none⟩) (Fr.refl (fun q => q = w.heap.size + 1 + 1 ∨ q = w.heap.size + 1 + 1 + 1) W4) (Or.inl (Or.inl rfl)) _) (Or.inl (Or.inl rfl)) _) (Or.inl (Or.inl rfl)) _) (Or.inl (Or.inr rfl)) _) (Or.inl (Or.inr rfl)) _
    have fzd := fz.drew
    obtain ⟨p0, p1, p2⟩ := AP.out
    obtain ⟨o0, o1, o2⟩ := AQ.out
    have S7 : ∀ W8, Fr (fun q => q < w.heap.size) (((((W4.setCell ⟨w.heap.size + 1 + 1, 0, none⟩ (.slice u0 E0 f0)).setCell ⟨w.heap.size + 1 + 1, 1, none⟩ (.slice u1 E1 f1)).setCell ⟨w.heap.size + 1 + 1, 2, none⟩ (.slice u2 E2 f2)).setCell ⟨w.heap.size + 1 + 1 + 1, 0, none⟩ (.int .i64 r0)).setCell ⟨w.heap.size + 1 + 1 + 1, 1, none⟩ (.int .u32 r1)).drew W8 → StAt W8 u0 u1 u2 st' := fun W8 f8 => by
      have fz8 : Fr (fun q => (q = w.heap.size + 1 + 1 ∨ q = w.heap.size + 1 + 1 + 1) ∨ q < w.heap.size) W4 W8 := (fzd.mono (fun _ _ h => Or.inl h)).trans f8 (fun _ _ h => Or.inr h)
      exact ⟨SA.out.q.fr fz8 (fun ad e hs => hs.elim (fun hs => hs.elim (fun h => p0 (by rw [own_some e, h])) (fun h => o0 (by rw [own_some e, h]))) (fun h => by have := (PA.out.q.typed ad.block (own_some e)).1; omega)), SA.out.s.fr fz8 (fun ad e hs => hs.elim (fun hs => hs.elim (fun h => p1 (by rw [own_some e, h])) (fun h => o1 (by rw [own_some e, h]))) (fun h => by have := (typed_row PA.out.s ad.block (own_some e)).1; omega)), SA.out.m.fr fz8 (fun ad e hs => hs.elim (fun hs => hs.elim (fun h => p2 (by rw [own_some e, h])) (fun h => o2 (by rw [own_some e, h]))) (fun h => by have := (typed_row PA.out.m ad.block (own_some e)).1; omega))⟩
    have X7 := fzd.ext X4.out (fun q e => by rcases e with e | e <;> omega)
    have L2d := L2'.ext ((Ext.refl _).drew)
    have L3d := L3'.ext ((Ext.refl _).drew)
    clear L2' L3' fz fzd a0 a1 a2 b0 b1 c20 c21 c22 z20 z21 z22 c30 c31 z30 z31
    generalize (((((W4.setCell ⟨w.heap.size + 1 + 1, 0, none⟩ (.slice u0 E0 f0)).setCell ⟨w.heap.size + 1 + 1, 1, none⟩ (.slice u1 E1 f1)).setCell ⟨w.heap.size + 1 + 1, 2, none⟩ (.slice u2 E2 f2)).setCell ⟨w.heap.size + 1 + 1 + 1, 0, none⟩ (.int .i64 r0)).setCell ⟨w.heap.size + 1 + 1 + 1, 1, none⟩ (.int .u32 r1)).drew = W7 at *
    have y0 : W7.cell? ⟨w.heap.size + 1 + 1, 0, none⟩ = some (.slice u0 E0 f0) := L2d.cell 0
    have y1 : W7.cell? ⟨w.heap.size + 1 + 1, 1, none⟩ = some (.slice u1 E1 f1) := L2d.cell 1
    have y2 : W7.cell? ⟨w.heap.size + 1 + 1, 2, none⟩ = some (.slice u2 E2 f2) := L2d.cell 2
    have y3 : W7.cell? ⟨w.heap.size + 1 + 1 + 1, 0, none⟩ = some (.int .i64 r0) := L3d.cell 0
    have y4 : W7.cell? ⟨w.heap.size + 1 + 1 + 1, 1, none⟩ = some (.int .u32 r1) := L3d.cell 1
    exact bodyPost_ret (v := .tuple #[.agg #[.slice u0 E0 f0, .slice u1 E1 f1, .slice u2 E2 f2], .agg #[.int .i64 r0, .int .u32 r1]]) (by simp [results, Try.results9, go_sem, y0, y1, y2, y3, y4]) rfl ⟨u0, u1, u2, f0, f1, f2, by rw [HE0.out, HE1.out, HE2.out], S7, (fun ad e => by
      rcases e with e | e | e
      · exact (PA.out.q.typed ad.block (own_some e)).1
      · exact (typed_row PA.out.s ad.block (own_some e)).1
      · exact (typed_row PA.out.m ad.block (own_some e)).1), X7⟩
theorem apply_ok (w : World) (A0 A1 A2 : Option Addr) (n0 n1 n2 c0 c1 c2 : Nat) (st : Sta) (k a b : Int) (h : StAt w A0 A1 A2 st) (hl : Lens st n0 n1 n2) (m0 : n0 ≤ 1000) (m1 : n1 ≤ 1000) (m2 : n2 ≤ 1000) :
    Calls Try.prog 9 #[.agg #[.slice A0 n0 c0, .slice A1 n1 c1, .slice A2 n2 c2], .agg #[.int .i64 k, .int .u32 a, .int .u32 b]] w (AppPost w (doS st k a b).1 (doS st k a b).2) :=
  (applyF_ok w A0 A1 A2 n0 n1 n2 c0 c1 c2 st k a b h hl m0 m1 m2).mono (by
    rintro e w' ⟨B0, B1, B2, d0, d1, d2, he, hs, _, hx⟩
    exact ⟨B0, B1, B2, d0, d1, d2, he, hs _ (Fr.refl _ _), hx⟩)
theorem takes_ok (w : World) (A0 A1 A2 : Option Addr) (n0 n1 n2 c0 c1 c2 : Nat) (m0 : n0 ≤ 1000000) (m1 : n1 ≤ 1000000) (m2 : n2 ≤ 1000000) : Calls Try.prog 12 #[.agg #[.slice A0 n0 c0, .slice A1 n1 c1, .slice A2 n2 c2]] w fun e w' => e = .returned (.int .i64 ((n0 : Int) + n1 + n2 + 1)) ∧ Ext w w' := by
  go_enter Try.func12, Try.ntmps12
  go_wp2
  go_ret
  exact ⟨rfl, (Ext.refl w).alloc _⟩
end Go.Proofs.Ythbngenjcgclgaa
