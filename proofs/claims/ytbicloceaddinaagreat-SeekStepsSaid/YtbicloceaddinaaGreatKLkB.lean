/- Package link: each step of a Read and of a Set. Conditions: those that each theorem names. -/
import Derived.Test.YtbicloceaddinaaGreatKLkA
import Derived.Deep.RegionHeld3
import Derived.Lib.QuietBelow
import Derived.Deep.DeepCutAuto
namespace Go.Proofs.YtbicloceaddinaaGreat
open Go.ChangeShapes Go.WideShapes Go.ChangeAt Go.RowKit
set_option linter.unusedVariables false
theorem writes_no (B : Nat) (w : World) (D : DevB) (s : DSt) (h : IsDev B w D s) (at_ : Int) (ha : at_ < 0 ∨ (s.n : Int) ≤ at_) :
    Calls Tryz.prog 264 #[D.ptr, .int .i64 at_] w fun e w' => e = .returned (.int .i64 0) ∧ w = w' := by
  unfold DevB.ptr
  have HC : Hid (Calls Tryz.prog 150 #[.pointer (some ⟨D.gd, 0, none⟩), .int .i64 at_] w fun e w' => e = .returned (.int .i64 5) ∧ w = w') := by
    rcases ha with ha | ha
    · exact Lib.hid (askL_lo _ _ _ _ at_ ha w h.n1 h.c0)
    · exact Lib.hid (askL_hi _ _ _ _ at_ (by omega) w h.n1 h.c0)
  clear ha
  go_enter Tryz.func264, Tryz.ntmps264
  go_wp2_with fail
  refine HC.out.mono ?_
  rintro e w' ⟨rfl, rfl⟩
  go_wp2_with fail
  go_ret
  exact ⟨rfl, rfl⟩
section
variable {Q : Nat → Prop} {wb w0 w : World} {gm : Nat} {dv pv v : Value} {s : MSt}
theorem AtQ.writesAny {s : DSt} (h : AtQ Q wb w0 w v s) (a : Int) : Calls Tryz.prog 264 #[v, .int .i64 (lineNo a)] w fun e w' => e = .returned (.int .i64 (writesV s a)) ∧ w = w' := by
  obtain ⟨D, rfl, h, ext, hQ⟩ := h
  unfold lineNo writesV
  by_cases ha : 0 ≤ a ∧ a < (s.n : Int) * 8
  · rw [if_neg (by omega), if_pos ha]
    obtain ⟨q, hq⟩ := Int.eq_ofNat_of_zero_le (show 0 ≤ a / 8 by omega)
    rw [hq]
    exact writes_ok _ _ _ _ h q (by omega)
  · rw [if_neg ha]
    by_cases hn : a < 0
    · rw [if_pos hn]
      exact writes_no _ _ _ _ h _ (by omega)
    · rw [if_neg hn]
      exact writes_no _ _ _ _ h _ (by omega)
set_option maxRecDepth 100000 in
set_option maxHeartbeats 1000000 in
theorem memWrites_ok (h : IsMem Q wb w0 w gm dv pv s) (a : Int) (h1 : a < 9223372036854775808) : Calls Tryz.prog 263 #[.pointer (some ⟨gm, 0, none⟩), .int .i64 a] w fun e w' => e = .returned (.int .i64 (writesV s.dev a)) ∧ Ext w w' := by
  have c0 : w.cell? ⟨gm, 0, none⟩ = some dv := h.blk.cell 0
  have HL := Lib.hid (fun W => lineOf_any a W h1)
  have HWr := Lib.hid (fun (W : World) (x : Ext w W) => (h.ext x).dev.writesAny a)
  have xt : Ext w w.drew := (Ext.refl w).drew
  clear h
  generalize writesV s.dev a = y at *
  generalize lineNo a = l at *
  go_enter Tryz.func263, Tryz.ntmps263
  go_wp2_with fail
  go_region_with (first
    | (go_at_call 147; refine (HL.out _).mono ?_; rintro e w' ⟨rfl, rfl⟩)
    | (go_at_call 264; refine (HWr.out _ xt).mono ?_; rintro e w' ⟨rfl, rfl⟩))
  all_goals
    go_wp2_with fail
    go_ret
    exact ⟨rfl, xt⟩
end
section
variable {Q : Nat → Prop} {w0 w : World} {gm gp : Nat} {T : TypeId} {dv pv : Value} {s : MSt} {t a part wd wh : Int} {dn : Bool} {cs : List Value}
set_option maxRecDepth 100000 in
set_option maxHeartbeats 4000000 in
theorem keep_1 (h : IsMem Q w w0 w gm dv pv s) (hc : Calm s) {i : Nat} (hi : i ≤ 1000) (fine : Fine i s.dev) (ha : I64 a) (hb : Blk w gp T (lkC t a 1 wd wh dn cs)) (qp : Q gp) (p0 : w0.heap.size ≤ gp) :
    Calls Tryz.prog 246 #[.pointer (some ⟨gp, 0, none⟩), .pointer (some ⟨gm, 0, none⟩)] w (StepPost Q w0 w gm gp T dv pv (s.flush t a) false (lkC t a 2 wd wh dn cs)) := by
  have HK : Hid (∀ W s', IsMem Q w w0 W gm dv pv s' → Blk W gp T (lkC t a 1 wd wh dn cs)) := Lib.hid (fun W s' m => (m.keptQ gp qp).trans hb)
  have HP : Hid (∀ W s', IsMem Q w w0 W gm dv pv s' → W.cell? ⟨gp, 0, none⟩ = some (.int .i64 t) ∧ W.cell? ⟨gp, 1, none⟩ = some (.int .i64 a)) := Lib.hid (fun W s' m => ⟨(HK.out W s' m).cell 0, (HK.out W s' m).cell 1⟩)
  have HL : Hid (∀ W, IsMem Q w w0 W gm dv pv s → Calls Tryz.prog 71 #[.pointer (some ⟨gm, 0, none⟩), .int .i64 t, .int .i64 a] W fun e w' => (∃ u, e = .returned u) ∧ IsMem Q w w0 w' gm dv pv (s.flush t a)) := Lib.hid (fun W m => memFlush_ok m t a ha.2 hi fine hc)
  have M := Lib.hid (h.ext ((Ext.refl w).drew))
  generalize s.flush t a = s1 at *
  have c0 : w.cell? ⟨gp, 0, none⟩ = some (.int .i64 t) := hb.cell 0
  have c1 : w.cell? ⟨gp, 1, none⟩ = some (.int .i64 a) := hb.cell 1
  have c2 : w.cell? ⟨gp, 2, none⟩ = some (.int .i64 1) := hb.cell 2
  clear h hb hc ha fine
  go_enter Tryz.func246, Tryz.ntmps246
  go_wp2_with fail
  go_region_held3 (fun W => W.cell? ⟨gp, 0, none⟩ = some (.int .i64 t) ∧ W.cell? ⟨gp, 1, none⟩ = some (.int .i64 a)) (first | exact HP.out _ _ M.out | go_keep) (first
    | (go_at_call 71; refine (HL.out _ M.out).mono ?_; rintro e w1 ⟨⟨u, rfl⟩, m1⟩; replace M := Lib.hid m1; clear m1))
  all_goals
    have y2 : w1.cell? ⟨gp, 2, none⟩ = some (.int .i64 1) := (HK.out _ _ M.out).cell 2
    have z2 : w1.frozen? ⟨gp, 2, none⟩ = false := (HK.out _ _ M.out).frozen 2
    go_wp2_with fail
    go_ret
    have f : Fr (fun b => b = gp) w1 (w1.setCell ⟨gp, 2, none⟩ (.int .i64 2)) := Fr.setCell (S := fun b => b = gp) (p := ⟨gp, 2, none⟩) (Fr.refl _ w1) (Or.inl rfl) _
    refine ⟨rfl, M.out.turn f (fun b e => by rw [e]; exact qp) (fun b e => by rw [e]; exact p0), (HK.out _ _ M.out).set 2 _, fun b hb hne => ?_⟩
    exact (f.block b (M.out.lt.2 b hb) hne).trans (M.out.keptQ b hb)
set_option maxRecDepth 100000 in
set_option maxHeartbeats 4000000 in
theorem keep_2 (h : IsMem Q w w0 w gm dv pv s) (hc : Calm s) {i : Nat} (hi : i ≤ 1000) (fine : Fine i s.dev) (ha : I64 a) (hb : Blk w gp T (lkC t a 2 wd wh dn cs)) (qp : Q gp) (p0 : w0.heap.size ≤ gp) :
    Calls Tryz.prog 246 #[.pointer (some ⟨gp, 0, none⟩), .pointer (some ⟨gm, 0, none⟩)] w (StepPost Q w0 w gm gp T dv pv (s.fence t) false (lkC t a 3 wd wh dn cs)) := by
  have HK : Hid (∀ W s', IsMem Q w w0 W gm dv pv s' → Blk W gp T (lkC t a 2 wd wh dn cs)) := Lib.hid (fun W s' m => (m.keptQ gp qp).trans hb)
  have HL : Hid (∀ W, IsMem Q w w0 W gm dv pv s → Calls Tryz.prog 72 #[.pointer (some ⟨gm, 0, none⟩), .int .i64 t] W fun e w' => (∃ u, e = .returned u) ∧ IsMem Q w w0 w' gm dv pv (s.fence t)) := Lib.hid (fun W m => memFence_ok m t hi fine hc)
  have M := Lib.hid h
  generalize s.fence t = s1 at *
  have c0 : w.cell? ⟨gp, 0, none⟩ = some (.int .i64 t) := hb.cell 0
  have c2 : w.cell? ⟨gp, 2, none⟩ = some (.int .i64 2) := hb.cell 2
  clear h hb hc ha fine
  go_enter Tryz.func246, Tryz.ntmps246
  go_wp2_with fail
  refine (HL.out _ M.out).mono ?_
  rintro e w1 ⟨⟨u, rfl⟩, m1⟩
  replace M := Lib.hid m1
  clear m1
  have y2 : w1.cell? ⟨gp, 2, none⟩ = some (.int .i64 2) := (HK.out _ _ M.out).cell 2
  have z2 : w1.frozen? ⟨gp, 2, none⟩ = false := (HK.out _ _ M.out).frozen 2
  go_wp2_with fail
  go_ret
  have f : Fr (fun b => b = gp) w1 (w1.setCell ⟨gp, 2, none⟩ (.int .i64 3)) := Fr.setCell (S := fun b => b = gp) (p := ⟨gp, 2, none⟩) (Fr.refl _ w1) (Or.inl rfl) _
  refine ⟨rfl, M.out.turn f (fun b e => by rw [e]; exact qp) (fun b e => by rw [e]; exact p0), (HK.out _ _ M.out).set 2 _, fun b hb hne => ?_⟩
  exact (f.block b (M.out.lt.2 b hb) hne).trans (M.out.keptQ b hb)
set_option maxRecDepth 100000 in
set_option maxHeartbeats 4000000 in
theorem keep_3 (h : IsMem Q w w0 w gm dv pv s) (hc : Calm s) (ha : I64 a) (hw : W64 wd) (hb : Blk w gp T (lkC t a 3 wd wh dn cs)) (qp : Q gp) (p0 : w0.heap.size ≤ gp) :
    Calls Tryz.prog 246 #[.pointer (some ⟨gp, 0, none⟩), .pointer (some ⟨gm, 0, none⟩)] w (StepPost Q w0 w gm gp T dv pv (s.swap t a wd (clN wd)) true (lkC t a 3 wd wh dn cs)) := by
  have HK : Hid (∀ W s', IsMem Q w w0 W gm dv pv s' → Blk W gp T (lkC t a 3 wd wh dn cs)) := Lib.hid (fun W s' m => (m.keptQ gp qp).trans hb)
  have HP : Hid (∀ W s', IsMem Q w w0 W gm dv pv s' → W.cell? ⟨gp, 0, none⟩ = some (.int .i64 t) ∧ W.cell? ⟨gp, 1, none⟩ = some (.int .i64 a) ∧ W.cell? ⟨gp, 3, none⟩ = some (.int .u64 wd)) := Lib.hid (fun W s' m => ⟨(HK.out W s' m).cell 0, (HK.out W s' m).cell 1, (HK.out W s' m).cell 3⟩)
  have HL : Hid (∀ W, IsMem Q w w0 W gm dv pv s → Calls Tryz.prog 70 #[.pointer (some ⟨gm, 0, none⟩), .int .i64 t, .int .i64 a, .int .u64 wd, .int .u64 (clN wd)] W fun e w' => (∃ u, e = .returned u) ∧ IsMem Q w w0 w' gm dv pv (s.swap t a wd (clN wd))) := Lib.hid (fun W m => (memSwap_ok m t a wd (clN wd) ha.1 ha.2 (clN_rng wd) hc).mono fun e w' hh => ⟨⟨_, hh.1⟩, hh.2⟩)
  have HCl : Hid (∀ W, Calls Tryz.prog 255 #[.int .u64 wd] W fun e w' => e = .returned (.int .u64 (clN wd)) ∧ Ext w' w' ∧ Ext W w') := Lib.hid (fun W => (clean_any wd hw.1 hw.2 W).mono fun e w' hh => ⟨hh.1, Ext.refl _, hh.2⟩)
  have M := Lib.hid (h.ext ((Ext.refl w).drew))
  generalize s.swap t a wd (clN wd) = s1 at *
  have c0 : w.cell? ⟨gp, 0, none⟩ = some (.int .i64 t) := hb.cell 0
  have c1 : w.cell? ⟨gp, 1, none⟩ = some (.int .i64 a) := hb.cell 1
  have c3 : w.cell? ⟨gp, 3, none⟩ = some (.int .u64 wd) := hb.cell 3
  have c2 : w.cell? ⟨gp, 2, none⟩ = some (.int .i64 3) := hb.cell 2
  clear h hb hc ha hw
  go_enter Tryz.func246, Tryz.ntmps246
  go_wp2_with fail
  go_region_held3 (fun W => W.cell? ⟨gp, 0, none⟩ = some (.int .i64 t) ∧ W.cell? ⟨gp, 1, none⟩ = some (.int .i64 a) ∧ W.cell? ⟨gp, 3, none⟩ = some (.int .u64 wd)) (first | exact HP.out _ _ M.out | go_keep) (first
    | (go_at_call 255; refine (HCl.out _).mono ?_; rintro e w1 ⟨rfl, -, x1⟩; replace M := Lib.hid (M.out.ext x1); clear x1)
    | (go_at_call 70; refine (HL.out _ M.out).mono ?_; rintro e w1 ⟨⟨u, rfl⟩, m1⟩; replace M := Lib.hid m1; clear m1))
  all_goals
    go_wp2_with fail
    go_ret
    exact ⟨rfl, M.out.here, HK.out _ _ M.out, fun b hb hne => M.out.keptQ b hb⟩
end
theorem lrDone_ok (w : World) (g : Nat) (d : Bool) (c5 : w.cell? ⟨g, 5, none⟩ = some (.bool d)) :
    Calls Tryz.prog 244 #[.pointer (some ⟨g, 0, none⟩)] w fun e w' => e = .returned (.bool d) ∧ w = w' := by
  go_enter Tryz.func244, Tryz.ntmps244
  go_wp2_with fail
  go_ret
  exact ⟨rfl, rfl⟩
theorem lsDone_ok (w : World) (g : Nat) (d : Bool) (c5 : w.cell? ⟨g, 5, none⟩ = some (.bool d)) :
    Calls Tryz.prog 261 #[.pointer (some ⟨g, 0, none⟩)] w fun e w' => e = .returned (.bool d) ∧ w = w' := by
  go_enter Tryz.func261, Tryz.ntmps261
  go_wp2_with fail
  go_ret
  exact ⟨rfl, rfl⟩
section
variable {Q : Nat → Prop} {w0 w : World} {gm gp : Nat} {dv pv : Value} {s : MSt} {t a wd wh : Int}
set_option maxRecDepth 100000 in
set_option maxHeartbeats 4000000 in
theorem lrLoad_ok (h : IsMem Q w w0 w gm dv pv s) (hc : Calm s) (ha : I64 a) (hb : Blk w gp 270 (lkC t a 0 wd wh false [])) (qp : Q gp) (p0 : w0.heap.size ≤ gp) :
    Calls Tryz.prog 245 #[.pointer (some ⟨gp, 0, none⟩), .pointer (some ⟨gm, 0, none⟩)] w fun e w' => (∃ u, e = .returned u) ∧ IsMem Q w' w0 w' gm dv pv (s.load t a) ∧ Blk w' gp 270 (if BM.dirtyB (peekV s a) = true then lkC t a 1 (peekV s a) wh false [] else lkC t a 0 (peekV s a) (s.load t a).clock true []) ∧ (∀ b, Q b → b ≠ gp → w'.heap[b]? = w.heap[b]?) := by
  have HK : Hid (∀ W s', IsMem Q w w0 W gm dv pv s' → Blk W gp 270 (lkC t a 0 wd wh false [])) := Lib.hid (fun W s' m => (m.keptQ gp qp).trans hb)
  have HP : Hid (∀ W s', IsMem Q w w0 W gm dv pv s' → W.cell? ⟨gp, 0, none⟩ = some (.int .i64 t) ∧ W.cell? ⟨gp, 1, none⟩ = some (.int .i64 a)) := Lib.hid (fun W s' m => ⟨(HK.out W s' m).cell 0, (HK.out W s' m).cell 1⟩)
  have HP2 : Hid (∀ W s' u, IsMem Q w w0 W gm dv pv s' → (W.setCell ⟨gp, 3, none⟩ u).cell? ⟨gp, 0, none⟩ = some (.int .i64 t) ∧ (W.setCell ⟨gp, 3, none⟩ u).cell? ⟨gp, 1, none⟩ = some (.int .i64 a)) := Lib.hid (fun W s' u m => ⟨((HK.out W s' m).set 3 u).cell 0, ((HK.out W s' m).set 3 u).cell 1⟩)
  have HL : Hid (∀ W, IsMem Q w w0 W gm dv pv s → Calls Tryz.prog 69 #[.pointer (some ⟨gm, 0, none⟩), .int .i64 t, .int .i64 a] W fun e w' => e = .returned (.int .u64 (peekV s a)) ∧ IsMem Q w w0 w' gm dv pv (s.load t a)) := Lib.hid (fun W m => memLoad_ok m t a ha.1 ha.2 hc)
  have hv := h.peekU a
  have HDi := Lib.hid (fun W => dirty_any (peekV s a) hv.1 hv.2 W)
  have HCk : Hid (∀ W wb, IsMem Q wb w0 W gm dv pv (s.load t a) → Calls Tryz.prog 77 #[.pointer (some ⟨gm, 0, none⟩)] W fun e w' => e = .returned (.int .i64 (s.load t a).clock) ∧ W = w') := Lib.hid (fun W wb m => memClock_ok m)
  have M := Lib.hid (h.ext ((Ext.refl w).drew))
  generalize (s.load t a).clock = ck at *
  generalize s.load t a = s1 at *
  generalize BM.dirtyB (peekV s a) = d at *
  generalize peekV s a = v at *
  have c0 : w.cell? ⟨gp, 0, none⟩ = some (.int .i64 t) := hb.cell 0
  have c1 : w.cell? ⟨gp, 1, none⟩ = some (.int .i64 a) := hb.cell 1
  clear h hb hc ha hv
  go_enter Tryz.func245, Tryz.ntmps245
  go_wp2_with fail
  go_region_held3 (fun W => W.cell? ⟨gp, 0, none⟩ = some (.int .i64 t) ∧ W.cell? ⟨gp, 1, none⟩ = some (.int .i64 a)) (first | exact HP.out _ _ M.out | exact HP2.out _ _ _ M.out | go_keep) (first
    | (go_at_call 69; refine (HL.out _ M.out).mono ?_; rintro e w1 ⟨rfl, m1⟩; replace M := Lib.hid m1; have y3 : w1.cell? ⟨gp, 3, none⟩ = some (.int .u64 wd) := (HK.out _ _ m1).cell 3; have z3 : w1.frozen? ⟨gp, 3, none⟩ = false := (HK.out _ _ m1).frozen 3; clear m1))
  all_goals
    have f : Fr (fun b => b = gp) w1 (w1.setCell ⟨gp, 3, none⟩ (.int .u64 v)) := Fr.setCell (S := fun b => b = gp) (p := ⟨gp, 3, none⟩) (Fr.refl _ w1) (Or.inl rfl) _
    have M1 := Lib.hid (M.out.turn f (fun b e => by rw [e]; exact qp) (fun b e => by rw [e]; exact p0))
    have B1 : Hid (Blk (w1.setCell ⟨gp, 3, none⟩ (.int .u64 v)) gp 270 (lkC t a 0 v wh false [])) := Lib.hid ((HK.out _ _ M.out).set 3 _)
    have K1 : Hid (∀ b, Q b → b ≠ gp → (w1.setCell ⟨gp, 3, none⟩ (.int .u64 v)).heap[b]? = w.heap[b]?) := Lib.hid (fun b hb hne => (f.block b (M.out.lt.2 b hb) hne).trans (M.out.keptQ b hb))
    have d3 : (w1.setCell ⟨gp, 3, none⟩ (.int .u64 v)).cell? ⟨gp, 3, none⟩ = some (.int .u64 v) := B1.out.cell 3
    clear f y3 z3 c0 c1 HP HP2 HK HL
    generalize (w1.setCell ⟨gp, 3, none⟩ (.int .u64 v)) = w2 at *
    go_wp2_with fail
    refine (HDi.out _).mono ?_
    rintro e w3 ⟨rfl, x3⟩
    have M3 := Lib.hid (M1.out.ext x3)
    have B3 := Lib.hid (B1.out.ext x3)
    have K3 : Hid (∀ b, Q b → b ≠ gp → w3.heap[b]? = w.heap[b]?) := Lib.hid (fun b hb hne => (x3.block b (M1.out.lt.2 b hb)).trans (K1.out b hb hne))
    have y2 : w3.cell? ⟨gp, 2, none⟩ = some (.int .i64 0) := B3.out.cell 2
    have z2 : w3.frozen? ⟨gp, 2, none⟩ = false := B3.out.frozen 2
    have y4 : w3.cell? ⟨gp, 4, none⟩ = some (.int .i64 wh) := B3.out.cell 4
    have z4 : w3.frozen? ⟨gp, 4, none⟩ = false := B3.out.frozen 4
    have y5 : w3.cell? ⟨gp, 5, none⟩ = some (.bool false) := B3.out.cell 5
    have z5 : w3.frozen? ⟨gp, 5, none⟩ = false := B3.out.frozen 5
    clear x3 d3 M1 B1 K1 M
    cases d
    · go_wp2_with fail
      refine (HCk.out _ _ M3.out).mono ?_
      rintro e w4 ⟨rfl, rfl⟩
      go_wp2_with fail
      (first | (refine bodyPost_ret (results_none rfl _ _ _) rfl ?_) | (refine bodyPost_end (results_none rfl _ _ _) rfl ?_))
      have g : Fr (fun b => b = gp) w3 ((w3.setCell ⟨gp, 4, none⟩ (.int .i64 ck)).setCell ⟨gp, 5, none⟩ (.bool true)) := Fr.setCell (S := fun b => b = gp) (p := ⟨gp, 5, none⟩) (Fr.setCell (S := fun b => b = gp) (p := ⟨gp, 4, none⟩) (Fr.refl _ w3) (Or.inl rfl) _) (Or.inl rfl) _
      refine ⟨⟨_, rfl⟩, M3.out.turn g (fun b e => by rw [e]; exact qp) (fun b e => by rw [e]; exact p0), ?_, fun b hb hne => ?_⟩
      · first | exact (B3.out.set 4 _).set 5 _ | (rw [if_neg (by decide)]; exact (B3.out.set 4 _).set 5 _)
      · exact (g.block b (M3.out.lt.2 b hb) hne).trans (K3.out b hb hne)
    · go_wp2_with fail
      (first | (refine bodyPost_ret (results_none rfl _ _ _) rfl ?_) | (refine bodyPost_end (results_none rfl _ _ _) rfl ?_))
      have g : Fr (fun b => b = gp) w3 (w3.setCell ⟨gp, 2, none⟩ (.int .i64 1)) := Fr.setCell (S := fun b => b = gp) (p := ⟨gp, 2, none⟩) (Fr.refl _ w3) (Or.inl rfl) _
      refine ⟨⟨_, rfl⟩, M3.out.turn g (fun b e => by rw [e]; exact qp) (fun b e => by rw [e]; exact p0), ?_, fun b hb hne => ?_⟩
      · first | exact B3.out.set 2 _ | (rw [if_pos rfl]; exact B3.out.set 2 _)
      · exact (g.block b (M3.out.lt.2 b hb) hne).trans (K3.out b hb hne)
set_option maxRecDepth 100000 in
set_option maxHeartbeats 4000000 in
theorem lrStep_ok {x : LrM} (h : IsMem Q w w0 w gm dv pv s) (hc : Calm s) {i : Nat} (hi : i ≤ 1000) (fine : Fine i s.dev) (ha : I64 a) (hx : x.Wf) (hb : Blk w gp 270 (x.cells t a)) (qp : Q gp) (p0 : w0.heap.size ≤ gp) :
    Calls Tryz.prog 230 #[.pointer (some ⟨gp, 0, none⟩), .pointer (some ⟨gm, 0, none⟩)] w (StepPost Q w0 w gm gp 270 dv pv (lrS t a x s).2 (lrS t a x s).1.dn ((lrS t a x s).1.cells t a)) := by
  obtain ⟨part, wd, wh, dn⟩ := x
  obtain ⟨hp, hw⟩ := hx
  simp only at hp hw
  have c5 : w.cell? ⟨gp, 5, none⟩ = some (.bool dn) := hb.cell 5
  have c2 : w.cell? ⟨gp, 2, none⟩ = some (.int .i64 part) := hb.cell 2
  cases dn
  · rcases hp with rfl | rfl | rfl | rfl
    · have e1 : lrS t a ⟨0, wd, wh, false⟩ s = (if BM.dirtyB (peekV s a) = true then ⟨1, peekV s a, wh, false⟩ else ⟨0, peekV s a, (s.load t a).clock, true⟩, s.load t a) := rfl
      rw [e1]
      have HL := Lib.hid (lrLoad_ok h hc ha hb qp p0)
      generalize (s.load t a).clock = ck at *
      generalize s.load t a = s1 at *
      generalize BM.dirtyB (peekV s a) = d at *
      generalize peekV s a = v at *
      obtain ⟨X, hX⟩ : ∃ X : LrM, (if d = true then (⟨1, v, wh, false⟩ : LrM) else ⟨0, v, ck, true⟩) = X := ⟨_, rfl⟩
      rw [hX]
      have HX := Lib.hid hX
      clear h hb hc fine e1 hX
      go_enter Tryz.func230, Tryz.ntmps230
      go_wp2_with fail
      refine (lrDone_ok _ gp false c5).mono ?_
      rintro e w' ⟨rfl, rfl⟩
      go_wp2_with fail
      refine HL.out.mono ?_
      rintro e w1 ⟨⟨u, rfl⟩, m1, b1, k1⟩
      have M1 := Lib.hid m1
      have K1 := Lib.hid k1
      clear m1 k1 HL c5 c2
      cases d
      · have e9 : (⟨0, v, ck, true⟩ : LrM) = X := by simpa using HX.out
        simp only [reduceCtorEq, if_false] at b1
        have c5 : w1.cell? ⟨gp, 5, none⟩ = some (.bool true) := b1.cell 5
        have B1 := Lib.hid b1
        clear b1
        go_wp2_with fail
        go_ret
        rw [← e9]
        exact ⟨rfl, M1.out, B1.out, K1.out⟩
      · have e9 : (⟨1, v, wh, false⟩ : LrM) = X := by simpa using HX.out
        simp only [if_pos] at b1
        have c5 : w1.cell? ⟨gp, 5, none⟩ = some (.bool false) := b1.cell 5
        have B1 := Lib.hid b1
        clear b1
        go_wp2_with fail
        go_ret
        rw [← e9]
        exact ⟨rfl, M1.out, B1.out, K1.out⟩
    · have HL := Lib.hid (keep_1 h hc hi fine ha hb qp p0)
      clear h hb hc fine
      go_enter Tryz.func230, Tryz.ntmps230
      go_wp2_with fail
      refine (lrDone_ok _ gp false c5).mono ?_
      rintro e w' ⟨rfl, rfl⟩
      go_wp2_with fail
      refine HL.out.mono ?_
      rintro e w1 ⟨rfl, m1, b1, k1⟩
      have c5 : w1.cell? ⟨gp, 5, none⟩ = some (.bool false) := b1.cell 5
      have M1 := Lib.hid m1
      have B1 := Lib.hid b1
      have K1 := Lib.hid k1
      clear m1 b1 k1 HL c2
      go_wp2_with fail
      go_ret
      exact ⟨rfl, M1.out, B1.out, K1.out⟩
    · have HL := Lib.hid (keep_2 h hc hi fine ha hb qp p0)
      clear h hb hc fine
      go_enter Tryz.func230, Tryz.ntmps230
      go_wp2_with fail
      refine (lrDone_ok _ gp false c5).mono ?_
      rintro e w' ⟨rfl, rfl⟩
      go_wp2_with fail
      refine HL.out.mono ?_
      rintro e w1 ⟨rfl, m1, b1, k1⟩
      have c5 : w1.cell? ⟨gp, 5, none⟩ = some (.bool false) := b1.cell 5
      have M1 := Lib.hid m1
      have B1 := Lib.hid b1
      have K1 := Lib.hid k1
      clear m1 b1 k1 HL c2
      go_wp2_with fail
      go_ret
      exact ⟨rfl, M1.out, B1.out, K1.out⟩
    · have HL := Lib.hid (keep_3 h hc ha hw hb qp p0)
      clear h hb hc fine
      go_enter Tryz.func230, Tryz.ntmps230
      go_wp2_with fail
      refine (lrDone_ok _ gp false c5).mono ?_
      rintro e w' ⟨rfl, rfl⟩
      go_wp2_with fail
      refine HL.out.mono ?_
      rintro e w1 ⟨rfl, m1, b1, k1⟩
      have c5 : w1.cell? ⟨gp, 5, none⟩ = some (.bool false) := b1.cell 5
      have d2 : w1.cell? ⟨gp, 2, none⟩ = some (.int .i64 3) := b1.cell 2
      have z2 : w1.frozen? ⟨gp, 2, none⟩ = false := b1.frozen 2
      have M1 := Lib.hid m1
      have B1 := Lib.hid b1
      have K1 := Lib.hid k1
      clear m1 b1 k1 HL c2
      go_wp2_with fail
      go_ret
      have f : Fr (fun b => b = gp) w1 (w1.setCell ⟨gp, 2, none⟩ (.int .i64 0)) := Fr.setCell (S := fun b => b = gp) (p := ⟨gp, 2, none⟩) (Fr.refl _ w1) (Or.inl rfl) _
      exact ⟨rfl, M1.out.turn f (fun b e => by rw [e]; exact qp) (fun b e => by rw [e]; exact p0), B1.out.set 2 _, fun b hb hne => (f.block b (M1.out.lt.2 b hb) hne).trans (K1.out b hb hne)⟩
  · have H := Lib.hid h
    have HB := Lib.hid hb
    clear h hb hc fine
    go_enter Tryz.func230, Tryz.ntmps230
    go_wp2_with fail
    refine (lrDone_ok _ gp true c5).mono ?_
    rintro e w' ⟨rfl, rfl⟩
    go_wp2_with fail
    go_ret
    exact ⟨rfl, H.out, HB.out, fun _ _ _ => rfl⟩
end
section
variable {Q : Nat → Prop} {w0 w : World} {gm gp : Nat} {dv pv : Value} {s : MSt} {t a wd wh old wr : Int} {put : Bool}
set_option maxRecDepth 100000 in
set_option maxHeartbeats 4000000 in
theorem lsSwap_ok (h : IsMem Q w w0 w gm dv pv s) (hc : Calm s) (ha : I64 a) (hw : W64 wd) (hb : Blk w gp 278 (lkC t a 0 wd wh false [.int .u64 old, .bool put, .int .i64 wr])) (qp : Q gp) (p0 : w0.heap.size ≤ gp) :
    Calls Tryz.prog 262 #[.pointer (some ⟨gp, 0, none⟩), .pointer (some ⟨gm, 0, none⟩)] w fun e w' => (∃ u, e = .returned u) ∧ IsMem Q w' w0 w' gm dv pv (s.swap t a old wd) ∧ Blk w' gp 278 (if swapB s a old = true then lkC t a 1 wd (s.swap t a old wd).clock false [.int .u64 old, .bool true, .int .i64 (writesV (s.swap t a old wd).dev a)] else lkC t a 0 wd wh true [.int .u64 old, .bool false, .int .i64 wr]) ∧ (∀ b, Q b → b ≠ gp → w'.heap[b]? = w.heap[b]?) := by
  have HK : Hid (∀ W s', IsMem Q w w0 W gm dv pv s' → Blk W gp 278 (lkC t a 0 wd wh false [.int .u64 old, .bool put, .int .i64 wr])) := Lib.hid (fun W s' m => (m.keptQ gp qp).trans hb)
  have HP : Hid (∀ W s', IsMem Q w w0 W gm dv pv s' → W.cell? ⟨gp, 0, none⟩ = some (.int .i64 t) ∧ W.cell? ⟨gp, 1, none⟩ = some (.int .i64 a) ∧ W.cell? ⟨gp, 6, none⟩ = some (.int .u64 old) ∧ W.cell? ⟨gp, 3, none⟩ = some (.int .u64 wd)) := Lib.hid (fun W s' m => ⟨(HK.out W s' m).cell 0, (HK.out W s' m).cell 1, (HK.out W s' m).cell 6, (HK.out W s' m).cell 3⟩)
  have HP2 : Hid (∀ W s' u, IsMem Q w w0 W gm dv pv s' → (W.setCell ⟨gp, 7, none⟩ u).cell? ⟨gp, 0, none⟩ = some (.int .i64 t) ∧ (W.setCell ⟨gp, 7, none⟩ u).cell? ⟨gp, 1, none⟩ = some (.int .i64 a) ∧ (W.setCell ⟨gp, 7, none⟩ u).cell? ⟨gp, 6, none⟩ = some (.int .u64 old) ∧ (W.setCell ⟨gp, 7, none⟩ u).cell? ⟨gp, 3, none⟩ = some (.int .u64 wd)) := Lib.hid (fun W s' u m => ⟨((HK.out W s' m).set 7 u).cell 0, ((HK.out W s' m).set 7 u).cell 1, ((HK.out W s' m).set 7 u).cell 6, ((HK.out W s' m).set 7 u).cell 3⟩)
  have HL : Hid (∀ W, IsMem Q w w0 W gm dv pv s → Calls Tryz.prog 70 #[.pointer (some ⟨gm, 0, none⟩), .int .i64 t, .int .i64 a, .int .u64 old, .int .u64 wd] W fun e w' => e = .returned (.bool (swapB s a old)) ∧ IsMem Q w w0 w' gm dv pv (s.swap t a old wd)) := Lib.hid (fun W m => memSwap_ok m t a old wd ha.1 ha.2 hw hc)
  have HCk : Hid (∀ W wb, IsMem Q wb w0 W gm dv pv (s.swap t a old wd) → Calls Tryz.prog 77 #[.pointer (some ⟨gm, 0, none⟩)] W fun e w' => e = .returned (.int .i64 (s.swap t a old wd).clock) ∧ W = w') := Lib.hid (fun W wb m => memClock_ok m)
  have HWr : Hid (∀ W wb, IsMem Q wb w0 W gm dv pv (s.swap t a old wd) → Calls Tryz.prog 263 #[.pointer (some ⟨gm, 0, none⟩), .int .i64 a] W fun e w' => e = .returned (.int .i64 (writesV (s.swap t a old wd).dev a)) ∧ Ext W w') := Lib.hid (fun W wb m => memWrites_ok m a ha.2)
  have M := Lib.hid (h.ext ((Ext.refl w).drew))
  generalize writesV (s.swap t a old wd).dev a = wv at *
  generalize (s.swap t a old wd).clock = ck at *
  generalize s.swap t a old wd = s1 at *
  generalize swapB s a old = d at *
  have c0 : w.cell? ⟨gp, 0, none⟩ = some (.int .i64 t) := hb.cell 0
  have c1 : w.cell? ⟨gp, 1, none⟩ = some (.int .i64 a) := hb.cell 1
  have c6 : w.cell? ⟨gp, 6, none⟩ = some (.int .u64 old) := hb.cell 6
  have c3 : w.cell? ⟨gp, 3, none⟩ = some (.int .u64 wd) := hb.cell 3
  clear h hb hc ha hw
  go_enter Tryz.func262, Tryz.ntmps262
  go_wp2_with fail
  go_region_held3 (fun W => W.cell? ⟨gp, 0, none⟩ = some (.int .i64 t) ∧ W.cell? ⟨gp, 1, none⟩ = some (.int .i64 a) ∧ W.cell? ⟨gp, 6, none⟩ = some (.int .u64 old) ∧ W.cell? ⟨gp, 3, none⟩ = some (.int .u64 wd)) (first | exact HP.out _ _ M.out | exact HP2.out _ _ _ M.out | go_keep) (first
    | (go_at_call 70; refine (HL.out _ M.out).mono ?_; rintro e w1 ⟨rfl, m1⟩; replace M := Lib.hid m1; have y7 : w1.cell? ⟨gp, 7, none⟩ = some (.bool put) := (HK.out _ _ m1).cell 7; have z7 : w1.frozen? ⟨gp, 7, none⟩ = false := (HK.out _ _ m1).frozen 7; clear m1))
  all_goals
    have f : Fr (fun b => b = gp) w1 (w1.setCell ⟨gp, 7, none⟩ (.bool d)) := Fr.setCell (S := fun b => b = gp) (p := ⟨gp, 7, none⟩) (Fr.refl _ w1) (Or.inl rfl) _
    have M1 := Lib.hid (M.out.turn f (fun b e => by rw [e]; exact qp) (fun b e => by rw [e]; exact p0))
    have B1 : Hid (Blk (w1.setCell ⟨gp, 7, none⟩ (.bool d)) gp 278 (lkC t a 0 wd wh false [.int .u64 old, .bool d, .int .i64 wr])) := Lib.hid ((HK.out _ _ M.out).set 7 _)
    have K1 : Hid (∀ b, Q b → b ≠ gp → (w1.setCell ⟨gp, 7, none⟩ (.bool d)).heap[b]? = w.heap[b]?) := Lib.hid (fun b hb hne => (f.block b (M.out.lt.2 b hb) hne).trans (M.out.keptQ b hb))
    have d7 : (w1.setCell ⟨gp, 7, none⟩ (.bool d)).cell? ⟨gp, 7, none⟩ = some (.bool d) := B1.out.cell 7
    have y4 : (w1.setCell ⟨gp, 7, none⟩ (.bool d)).cell? ⟨gp, 4, none⟩ = some (.int .i64 wh) := B1.out.cell 4
    have z4 : (w1.setCell ⟨gp, 7, none⟩ (.bool d)).frozen? ⟨gp, 4, none⟩ = false := B1.out.frozen 4
    have y5 : (w1.setCell ⟨gp, 7, none⟩ (.bool d)).cell? ⟨gp, 5, none⟩ = some (.bool false) := B1.out.cell 5
    have z5 : (w1.setCell ⟨gp, 7, none⟩ (.bool d)).frozen? ⟨gp, 5, none⟩ = false := B1.out.frozen 5
    clear f y7 z7 c0 c1 c6 c3 HP HP2 HK HL M
    generalize (w1.setCell ⟨gp, 7, none⟩ (.bool d)) = w2 at *
    cases d
    · go_wp2_with fail
      (first | (refine bodyPost_ret (results_none rfl _ _ _) rfl ?_) | (refine bodyPost_end (results_none rfl _ _ _) rfl ?_))
      have g : Fr (fun b => b = gp) w2 (w2.setCell ⟨gp, 5, none⟩ (.bool true)) := Fr.setCell (S := fun b => b = gp) (p := ⟨gp, 5, none⟩) (Fr.refl _ w2) (Or.inl rfl) _
      refine ⟨⟨_, rfl⟩, M1.out.turn g (fun b e => by rw [e]; exact qp) (fun b e => by rw [e]; exact p0), ?_, fun b hb hne => ?_⟩
      · first | exact B1.out.set 5 _ | (rw [if_neg (by decide)]; exact B1.out.set 5 _)
      · exact (g.block b (M1.out.lt.2 b hb) hne).trans (K1.out b hb hne)
    · go_wp2_with fail
      refine (HCk.out _ _ M1.out).mono ?_
      rintro e w3 ⟨rfl, rfl⟩
      have g : Fr (fun b => b = gp) w2 (w2.setCell ⟨gp, 4, none⟩ (.int .i64 ck)) := Fr.setCell (S := fun b => b = gp) (p := ⟨gp, 4, none⟩) (Fr.refl _ w2) (Or.inl rfl) _
      have M2 := Lib.hid (M1.out.turn g (fun b e => by rw [e]; exact qp) (fun b e => by rw [e]; exact p0))
      have B2 : Hid (Blk (w2.setCell ⟨gp, 4, none⟩ (.int .i64 ck)) gp 278 (lkC t a 0 wd ck false [.int .u64 old, .bool true, .int .i64 wr])) := Lib.hid (B1.out.set 4 _)
      have K2 : Hid (∀ b, Q b → b ≠ gp → (w2.setCell ⟨gp, 4, none⟩ (.int .i64 ck)).heap[b]? = w.heap[b]?) := Lib.hid (fun b hb hne => (g.block b (M1.out.lt.2 b hb) hne).trans (K1.out b hb hne))
      have c1 : (w2.setCell ⟨gp, 4, none⟩ (.int .i64 ck)).cell? ⟨gp, 1, none⟩ = some (.int .i64 a) := B2.out.cell 1
      clear g d7 y5 z5
      go_wp2_with fail
      refine (HWr.out _ _ M2.out).mono ?_
      rintro e w4 ⟨rfl, x4⟩
      have M4 := Lib.hid (M2.out.ext x4)
      have B4 := Lib.hid (B2.out.ext x4)
      have K4 : Hid (∀ b, Q b → b ≠ gp → w4.heap[b]? = w.heap[b]?) := Lib.hid (fun b hb hne => (x4.block b (M2.out.lt.2 b hb)).trans (K2.out b hb hne))
      have y8 : w4.cell? ⟨gp, 8, none⟩ = some (.int .i64 wr) := B4.out.cell 8
      have z8 : w4.frozen? ⟨gp, 8, none⟩ = false := B4.out.frozen 8
      have y2 : w4.cell? ⟨gp, 2, none⟩ = some (.int .i64 0) := B4.out.cell 2
      have z2 : w4.frozen? ⟨gp, 2, none⟩ = false := B4.out.frozen 2
      clear x4 M2 B2 K2 c1 y4 z4 M1 B1 K1
      go_wp2_with fail
      (first | (refine bodyPost_ret (results_none rfl _ _ _) rfl ?_) | (refine bodyPost_end (results_none rfl _ _ _) rfl ?_))
      have g : Fr (fun b => b = gp) w4 ((w4.setCell ⟨gp, 8, none⟩ (.int .i64 wv)).setCell ⟨gp, 2, none⟩ (.int .i64 1)) := Fr.setCell (S := fun b => b = gp) (p := ⟨gp, 2, none⟩) (Fr.setCell (S := fun b => b = gp) (p := ⟨gp, 8, none⟩) (Fr.refl _ w4) (Or.inl rfl) _) (Or.inl rfl) _
      refine ⟨⟨_, rfl⟩, M4.out.turn g (fun b e => by rw [e]; exact qp) (fun b e => by rw [e]; exact p0), ?_, fun b hb hne => ?_⟩
      · first | exact (B4.out.set 8 _).set 2 _ | (rw [if_pos rfl]; exact (B4.out.set 8 _).set 2 _)
      · exact (g.block b (M4.out.lt.2 b hb) hne).trans (K4.out b hb hne)
set_option maxRecDepth 100000 in
set_option maxHeartbeats 4000000 in
theorem lsStep_ok {x : LsM} (h : IsMem Q w w0 w gm dv pv s) (hc : Calm s) {i : Nat} (hi : i ≤ 1000) (fine : Fine i s.dev) (ha : I64 a) (hp : x.part = 0 ∨ x.part = 1 ∨ x.part = 2 ∨ x.part = 3) (hw : W64 wd) (hb : Blk w gp 278 (x.cells t a wd old)) (qp : Q gp) (p0 : w0.heap.size ≤ gp) :
    Calls Tryz.prog 256 #[.pointer (some ⟨gp, 0, none⟩), .pointer (some ⟨gm, 0, none⟩)] w (StepPost Q w0 w gm gp 278 dv pv (lsS t a wd old x s).2 (lsS t a wd old x s).1.dn ((lsS t a wd old x s).1.cells t a wd old)) := by
  obtain ⟨part, wh, dn, put, wr⟩ := x
  simp only at hp
  have c5 : w.cell? ⟨gp, 5, none⟩ = some (.bool dn) := hb.cell 5
  have c2 : w.cell? ⟨gp, 2, none⟩ = some (.int .i64 part) := hb.cell 2
  cases dn
  · rcases hp with rfl | rfl | rfl | rfl
    · have e1 : lsS t a wd old ⟨0, wh, false, put, wr⟩ s = (if swapB s a old = true then ⟨1, (s.swap t a old wd).clock, false, true, writesV (s.swap t a old wd).dev a⟩ else ⟨0, wh, true, false, wr⟩, s.swap t a old wd) := rfl
      rw [e1]
      have HL := Lib.hid (lsSwap_ok h hc ha hw hb qp p0)
      generalize writesV (s.swap t a old wd).dev a = wv at *
      generalize (s.swap t a old wd).clock = ck at *
      generalize s.swap t a old wd = s1 at *
      generalize swapB s a old = d at *
      obtain ⟨X, hX⟩ : ∃ X : LsM, (if d = true then (⟨1, ck, false, true, wv⟩ : LsM) else ⟨0, wh, true, false, wr⟩) = X := ⟨_, rfl⟩
      rw [hX]
      have HX := Lib.hid hX
      clear h hb hc fine e1 hX
      go_enter Tryz.func256, Tryz.ntmps256
      go_wp2_with fail
      refine (lsDone_ok _ gp false c5).mono ?_
      rintro e w' ⟨rfl, rfl⟩
      go_wp2_with fail
      refine HL.out.mono ?_
      rintro e w1 ⟨⟨u, rfl⟩, m1, b1, k1⟩
      have M1 := Lib.hid m1
      have K1 := Lib.hid k1
      clear m1 k1 HL c5 c2
      cases d
      · have e9 : (⟨0, wh, true, false, wr⟩ : LsM) = X := by simpa using HX.out
        simp only [reduceCtorEq, if_false] at b1
        have c5 : w1.cell? ⟨gp, 5, none⟩ = some (.bool true) := b1.cell 5
        have B1 := Lib.hid b1
        clear b1
        go_wp2_with fail
        go_ret
        rw [← e9]
        exact ⟨rfl, M1.out, B1.out, K1.out⟩
      · have e9 : (⟨1, ck, false, true, wv⟩ : LsM) = X := by simpa using HX.out
        simp only [if_pos] at b1
        have c5 : w1.cell? ⟨gp, 5, none⟩ = some (.bool false) := b1.cell 5
        have B1 := Lib.hid b1
        clear b1
        go_wp2_with fail
        go_ret
        rw [← e9]
        exact ⟨rfl, M1.out, B1.out, K1.out⟩
    · have HL := Lib.hid (keep_1 h hc hi fine ha hb qp p0)
      clear h hb hc fine
      go_enter Tryz.func256, Tryz.ntmps256
      go_wp2_with fail
      refine (lsDone_ok _ gp false c5).mono ?_
      rintro e w' ⟨rfl, rfl⟩
      go_wp2_with fail
      refine HL.out.mono ?_
      rintro e w1 ⟨rfl, m1, b1, k1⟩
      have c5 : w1.cell? ⟨gp, 5, none⟩ = some (.bool false) := b1.cell 5
      have z5 : w1.frozen? ⟨gp, 5, none⟩ = false := b1.frozen 5
      have M1 := Lib.hid m1
      have B1 := Lib.hid b1
      have K1 := Lib.hid k1
      clear m1 b1 k1 HL c2
      go_wp2_with fail
      go_ret
      have f : Fr (fun b => b = gp) w1 (w1.setCell ⟨gp, 5, none⟩ (.bool false)) := Fr.setCell (S := fun b => b = gp) (p := ⟨gp, 5, none⟩) (Fr.refl _ w1) (Or.inl rfl) _
      exact ⟨rfl, M1.out.turn f (fun b e => by rw [e]; exact qp) (fun b e => by rw [e]; exact p0), B1.out.set 5 _, fun b hb hne => (f.block b (M1.out.lt.2 b hb) hne).trans (K1.out b hb hne)⟩
    · have HL := Lib.hid (keep_2 h hc hi fine ha hb qp p0)
      clear h hb hc fine
      go_enter Tryz.func256, Tryz.ntmps256
      go_wp2_with fail
      refine (lsDone_ok _ gp false c5).mono ?_
      rintro e w' ⟨rfl, rfl⟩
      go_wp2_with fail
      refine HL.out.mono ?_
      rintro e w1 ⟨rfl, m1, b1, k1⟩
      have c5 : w1.cell? ⟨gp, 5, none⟩ = some (.bool false) := b1.cell 5
      have z5 : w1.frozen? ⟨gp, 5, none⟩ = false := b1.frozen 5
      have M1 := Lib.hid m1
      have B1 := Lib.hid b1
      have K1 := Lib.hid k1
      clear m1 b1 k1 HL c2
      go_wp2_with fail
      go_ret
      have f : Fr (fun b => b = gp) w1 (w1.setCell ⟨gp, 5, none⟩ (.bool false)) := Fr.setCell (S := fun b => b = gp) (p := ⟨gp, 5, none⟩) (Fr.refl _ w1) (Or.inl rfl) _
      exact ⟨rfl, M1.out.turn f (fun b e => by rw [e]; exact qp) (fun b e => by rw [e]; exact p0), B1.out.set 5 _, fun b hb hne => (f.block b (M1.out.lt.2 b hb) hne).trans (K1.out b hb hne)⟩
    · have HL := Lib.hid (keep_3 h hc ha hw hb qp p0)
      clear h hb hc fine
      go_enter Tryz.func256, Tryz.ntmps256
      go_wp2_with fail
      refine (lsDone_ok _ gp false c5).mono ?_
      rintro e w' ⟨rfl, rfl⟩
      go_wp2_with fail
      refine HL.out.mono ?_
      rintro e w1 ⟨rfl, m1, b1, k1⟩
      have c5 : w1.cell? ⟨gp, 5, none⟩ = some (.bool false) := b1.cell 5
      have z5 : w1.frozen? ⟨gp, 5, none⟩ = false := b1.frozen 5
      have M1 := Lib.hid m1
      have B1 := Lib.hid b1
      have K1 := Lib.hid k1
      clear m1 b1 k1 HL c2
      go_wp2_with fail
      go_ret
      have f : Fr (fun b => b = gp) w1 (w1.setCell ⟨gp, 5, none⟩ (.bool true)) := Fr.setCell (S := fun b => b = gp) (p := ⟨gp, 5, none⟩) (Fr.refl _ w1) (Or.inl rfl) _
      exact ⟨rfl, M1.out.turn f (fun b e => by rw [e]; exact qp) (fun b e => by rw [e]; exact p0), B1.out.set 5 _, fun b hb hne => (f.block b (M1.out.lt.2 b hb) hne).trans (K1.out b hb hne)⟩
  · have H := Lib.hid h
    have HB := Lib.hid hb
    clear h hb hc fine
    go_enter Tryz.func256, Tryz.ntmps256
    go_wp2_with fail
    refine (lsDone_ok _ gp true c5).mono ?_
    rintro e w' ⟨rfl, rfl⟩
    go_wp2_with fail
    go_ret
    exact ⟨rfl, H.out, HB.out, fun _ _ _ => rfl⟩
end
theorem newRead_ok (w : World) (t a : Int) : Calls Tryz.prog 206 #[.int .i64 t, .int .i64 a] w fun e w' => ∃ g, e = .returned (.pointer (some ⟨g, 0, none⟩)) ∧ w.heap.size ≤ g ∧ Blk w' g 270 (LrM.cells ⟨0, 0, 0, false⟩ t a) ∧ Ext w w' := by
  go_enter Tryz.func206, Tryz.ntmps206
  go_wp2_with fail
  go_ret
  exact ⟨w.heap.size, rfl, Nat.le_refl _, Blk.new w _ _, (Ext.refl w).alloc _⟩
theorem newSet_ok (w : World) (t a old wd : Int) (ho : W64 old) (hw : W64 wd) : Calls Tryz.prog 247 #[.int .i64 t, .int .i64 a, .int .u64 old, .int .u64 wd] w fun e w' => ∃ g, e = .returned (.pointer (some ⟨g, 0, none⟩)) ∧ w.heap.size ≤ g ∧ Blk w' g 278 (LsM.cells ⟨0, 0, false, false, 0⟩ t a (soN wd) (clN old)) ∧ Ext w w' := by
  have HS : Hid (∀ W, Calls Tryz.prog 109 #[.int .u64 wd] W fun e w' => e = .returned (.int .u64 (soN wd)) ∧ Ext W w') := Lib.hid (fun W => soil_any wd hw.1 hw.2 W)
  have HC : Hid (∀ W, Calls Tryz.prog 255 #[.int .u64 old] W fun e w' => e = .returned (.int .u64 (clN old)) ∧ Ext W w') := Lib.hid (fun W => clean_any old ho.1 ho.2 W)
  clear ho hw
  generalize soN wd = z at *
  generalize clN old = y at *
  go_enter Tryz.func247, Tryz.ntmps247
  go_wp2_with fail
  refine (HS.out _).mono ?_
  rintro e w1 ⟨rfl, x1⟩
  go_wp2_with fail
  refine (HC.out _).mono ?_
  rintro e w2 ⟨rfl, x2⟩
  have X2 := Lib.hid (x1.trans x2)
  clear x1 x2
  go_wp2_with fail
  go_ret
  exact ⟨w2.heap.size, rfl, X2.out.size, Blk.new w2 _ _, X2.out.alloc _⟩
theorem lrWord_ok (w : World) (g : Nat) (wd : Int) (d : Bool) (c3 : w.cell? ⟨g, 3, none⟩ = some (.int .u64 wd)) (c5 : w.cell? ⟨g, 5, none⟩ = some (.bool d)) :
    Calls Tryz.prog 231 #[.pointer (some ⟨g, 0, none⟩)] w fun e w' => e = .returned (.int .u64 (if d = true then wd else 0)) ∧ w = w' := by
  cases d
  · go_enter Tryz.func231, Tryz.ntmps231
    go_wp2_with fail
    go_ret
    exact ⟨rfl, rfl⟩
  · go_enter Tryz.func231, Tryz.ntmps231
    go_wp2_with fail
    go_ret
    exact ⟨rfl, rfl⟩
theorem lrWhen_ok (w : World) (g : Nat) (wh : Int) (d : Bool) (c4 : w.cell? ⟨g, 4, none⟩ = some (.int .i64 wh)) (c5 : w.cell? ⟨g, 5, none⟩ = some (.bool d)) :
    Calls Tryz.prog 232 #[.pointer (some ⟨g, 0, none⟩)] w fun e w' => e = .returned (.int .i64 (if d = true then wh else -1)) ∧ w = w' := by
  cases d
  · go_enter Tryz.func232, Tryz.ntmps232
    go_wp2_with fail
    go_ret
    exact ⟨rfl, rfl⟩
  · go_enter Tryz.func232, Tryz.ntmps232
    go_wp2_with fail
    go_ret
    exact ⟨rfl, rfl⟩
theorem lsPut_ok (w : World) (g : Nat) (p : Bool) (c7 : w.cell? ⟨g, 7, none⟩ = some (.bool p)) :
    Calls Tryz.prog 257 #[.pointer (some ⟨g, 0, none⟩)] w fun e w' => e = .returned (.bool p) ∧ w = w' := by
  go_enter Tryz.func257, Tryz.ntmps257
  go_wp2_with fail
  go_ret
  exact ⟨rfl, rfl⟩
theorem lsWhen_ok (w : World) (g : Nat) (wh : Int) (p : Bool) (c4 : w.cell? ⟨g, 4, none⟩ = some (.int .i64 wh)) (c7 : w.cell? ⟨g, 7, none⟩ = some (.bool p)) :
    Calls Tryz.prog 258 #[.pointer (some ⟨g, 0, none⟩)] w fun e w' => e = .returned (.int .i64 (if p = true then wh else -1)) ∧ w = w' := by
  have HP := Lib.hid (lsPut_ok w g p c7)
  cases p
  · go_enter Tryz.func258, Tryz.ntmps258
    go_wp2_with fail
    refine HP.out.mono ?_
    rintro e w' ⟨rfl, rfl⟩
    go_wp2_with fail
    go_ret
    exact ⟨rfl, rfl⟩
  · go_enter Tryz.func258, Tryz.ntmps258
    go_wp2_with fail
    refine HP.out.mono ?_
    rintro e w' ⟨rfl, rfl⟩
    go_wp2_with fail
    go_ret
    exact ⟨rfl, rfl⟩
end Go.Proofs.YtbicloceaddinaaGreat


/- The document's Read and Set, each step. Conditions: those that each theorem names. -/
namespace Go.Proofs.YtbicloceaddinaaGreat
open Go.ChangeShapes Go.WideShapes Go.ChangeAt Go.RowKit
set_option linter.unusedVariables false
theorem swap_n (s : MSt) (t a z x : Int) : (s.swap t a z x).dev.n = s.dev.n := by
  have hp : (s.put a x).dev.n = s.dev.n := by
    unfold MSt.put
    split
    · exact (act_n s.dev 5 0 0 a x).1
    · rfl
  unfold MSt.swap; split
  · split
    · exact hp
    · rfl
  · rfl
section
variable {B : Nat} {w : World} {g : Nat} {R : RefB} {rv : Value} {gq : Nat} {st : MSt} {t a got wd wh : Int}
set_option maxRecDepth 100000 in
set_option maxHeartbeats 4000000 in
theorem rlr_2 (h : IsRMem B w g R rv st) (sd : Sound st.dev) (hc : Calm st) {i : Nat} (hi : i ≤ 1000) (fine : Fine i st.dev) (ha : I64 a) (hb : Blk w gq 157 (RLr.cells ⟨2, got, wd, wh⟩ t a)) (ho : ¬ rfoot g R rv gq) :
    Calls Tryz.prog 99 #[.pointer (some ⟨gq, 0, none⟩), .pointer (some ⟨g, 0, none⟩)] w (RPost B w g R rv gq 157 (RLr.cells ⟨3, got, wd, wh⟩ t a) (st.flush t a)) := by
  have M := Lib.hid ((RG.of h hb ho).ext ((Ext.refl w).drew))
  have HL : Hid (∀ W, RG B w W g R rv gq 157 (RLr.cells ⟨2, got, wd, wh⟩ t a) st → Calls Tryz.prog 50 #[.pointer (some ⟨g, 0, none⟩), .int .i64 4, .int .i64 t, .int .i64 a, .int .u64 0, .int .u64 0] W fun e w' => (∃ u, e = .returned u) ∧ RG B w w' g R rv gq 157 (RLr.cells ⟨2, got, wd, wh⟩ t a) (st.flush t a)) := Lib.hid (fun W m => (refFlush7 m.ref sd hi fine hc t a 0 0 ha.1 ha.2).mono (by rintro e w' ⟨⟨u, rfl⟩, r1, f1⟩; exact ⟨⟨_, rfl⟩, m.to r1 f1⟩))
  have HP : Hid (∀ W s', RG B w W g R rv gq 157 (RLr.cells ⟨2, got, wd, wh⟩ t a) s' → W.cell? ⟨gq, 0, none⟩ = some (.int .i64 t) ∧ W.cell? ⟨gq, 1, none⟩ = some (.int .i64 a)) := Lib.hid (fun W s' m => ⟨m.blk.cell 0, m.blk.cell 1⟩)
  generalize st.flush t a = st1 at *
  have c0 : w.cell? ⟨gq, 0, none⟩ = some (.int .i64 t) := hb.cell 0
  have c1 : w.cell? ⟨gq, 1, none⟩ = some (.int .i64 a) := hb.cell 1
  have c2 : w.cell? ⟨gq, 2, none⟩ = some (.int .i64 2) := hb.cell 2
  clear h hb sd hc ha fine
  go_enter Tryz.func99, Tryz.ntmps99
  go_wp2_with fail
  go_region_held3 (fun W => W.cell? ⟨gq, 0, none⟩ = some (.int .i64 t) ∧ W.cell? ⟨gq, 1, none⟩ = some (.int .i64 a)) (first | exact HP.out _ _ M.out | go_keep) (first
    | (go_at_call 50; refine (HL.out _ M.out).mono ?_; rintro e w1 ⟨⟨u, rfl⟩, m1⟩; replace M := Lib.hid m1; clear m1))
  all_goals
    have y2 : w1.cell? ⟨gq, 2, none⟩ = some (.int .i64 2) := M.out.blk.cell 2
    have z2 : w1.frozen? ⟨gq, 2, none⟩ = false := M.out.blk.frozen 2
    have M2 := Lib.hid (M.out.put 2 (.int .i64 3))
    go_wp2_with fail
    (first | (refine bodyPost_ret (results_none rfl _ _ _) rfl ?_) | (refine bodyPost_end (results_none rfl _ _ _) rfl ?_))
    exact ⟨⟨_, rfl⟩, M2.out⟩
set_option maxRecDepth 100000 in
set_option maxHeartbeats 4000000 in
theorem rlr_3 (h : IsRMem B w g R rv st) (sd : Sound st.dev) (hc : Calm st) {i : Nat} (hi : i ≤ 1000) (fine : Fine i st.dev) (ha : I64 a) (hb : Blk w gq 157 (RLr.cells ⟨3, got, wd, wh⟩ t a)) (ho : ¬ rfoot g R rv gq) :
    Calls Tryz.prog 99 #[.pointer (some ⟨gq, 0, none⟩), .pointer (some ⟨g, 0, none⟩)] w (RPost B w g R rv gq 157 (RLr.cells ⟨4, got, wd, wh⟩ t a) (st.fence t)) := by
  have M := Lib.hid (RG.of h hb ho)
  have HL : Hid (∀ W, RG B w W g R rv gq 157 (RLr.cells ⟨3, got, wd, wh⟩ t a) st → Calls Tryz.prog 50 #[.pointer (some ⟨g, 0, none⟩), .int .i64 5, .int .i64 t, .int .i64 0, .int .u64 0, .int .u64 0] W fun e w' => (∃ u, e = .returned u) ∧ RG B w w' g R rv gq 157 (RLr.cells ⟨3, got, wd, wh⟩ t a) (st.fence t)) := Lib.hid (fun W m => (refFence7 m.ref sd hi fine hc t 0 0 0 (by decide) (by decide)).mono (by rintro e w' ⟨⟨u, rfl⟩, r1, f1⟩; exact ⟨⟨_, rfl⟩, m.to r1 f1⟩))
  generalize st.fence t = st1 at *
  have c0 : w.cell? ⟨gq, 0, none⟩ = some (.int .i64 t) := hb.cell 0
  have c2 : w.cell? ⟨gq, 2, none⟩ = some (.int .i64 3) := hb.cell 2
  clear h hb sd hc ha fine
  go_enter Tryz.func99, Tryz.ntmps99
  go_wp2_with fail
  refine (HL.out _ M.out).mono ?_
  rintro e w1 ⟨⟨u, rfl⟩, m1⟩
  replace M := Lib.hid m1
  clear m1
  have y2 : w1.cell? ⟨gq, 2, none⟩ = some (.int .i64 3) := M.out.blk.cell 2
  have z2 : w1.frozen? ⟨gq, 2, none⟩ = false := M.out.blk.frozen 2
  have M2 := Lib.hid (M.out.put 2 (.int .i64 4))
  go_wp2_with fail
  (first | (refine bodyPost_ret (results_none rfl _ _ _) rfl ?_) | (refine bodyPost_end (results_none rfl _ _ _) rfl ?_))
  exact ⟨⟨_, rfl⟩, M2.out⟩
set_option maxRecDepth 100000 in
set_option maxHeartbeats 4000000 in
theorem rlr_4 (h : IsRMem B w g R rv st) (sd : Sound st.dev) (hc : Calm st) (hw : W64 got) (ha : I64 a) (hb : Blk w gq 157 (RLr.cells ⟨4, got, wd, wh⟩ t a)) (ho : ¬ rfoot g R rv gq) :
    Calls Tryz.prog 99 #[.pointer (some ⟨gq, 0, none⟩), .pointer (some ⟨g, 0, none⟩)] w (RPost B w g R rv gq 157 (RLr.cells ⟨1, got, wd, wh⟩ t a) (st.swap t a got (clN got))) := by
  have M := Lib.hid ((RG.of h hb ho).ext ((Ext.refl w).drew))
  have HL : Hid (∀ W, RG B w W g R rv gq 157 (RLr.cells ⟨4, got, wd, wh⟩ t a) st → Calls Tryz.prog 50 #[.pointer (some ⟨g, 0, none⟩), .int .i64 3, .int .i64 t, .int .i64 a, .int .u64 got, .int .u64 (clN got)] W fun e w' => (∃ u, e = .returned u) ∧ RG B w w' g R rv gq 157 (RLr.cells ⟨4, got, wd, wh⟩ t a) (st.swap t a got (clN got))) := Lib.hid (fun W m => (refSwap7v m.ref sd hc t a got (clN got) ha.1 ha.2).mono (by rintro e w' ⟨rfl, r1, f1⟩; exact ⟨⟨_, rfl⟩, m.to r1 f1⟩))
  have HCl : Hid (∀ W, Calls Tryz.prog 168 #[.int .u64 got] W fun e w' => e = .returned (.int .u64 (clN got)) ∧ Ext W w') := Lib.hid (fun W => rclean_any got hw.1 hw.2 W)
  have HP : Hid (∀ W s', RG B w W g R rv gq 157 (RLr.cells ⟨4, got, wd, wh⟩ t a) s' → W.cell? ⟨gq, 0, none⟩ = some (.int .i64 t) ∧ W.cell? ⟨gq, 1, none⟩ = some (.int .i64 a) ∧ W.cell? ⟨gq, 3, none⟩ = some (.int .u64 got)) := Lib.hid (fun W s' m => ⟨m.blk.cell 0, m.blk.cell 1, m.blk.cell 3⟩)
  generalize st.swap t a got (clN got) = st1 at *
  have c0 : w.cell? ⟨gq, 0, none⟩ = some (.int .i64 t) := hb.cell 0
  have c1 : w.cell? ⟨gq, 1, none⟩ = some (.int .i64 a) := hb.cell 1
  have c2 : w.cell? ⟨gq, 2, none⟩ = some (.int .i64 4) := hb.cell 2
  have c3 : w.cell? ⟨gq, 3, none⟩ = some (.int .u64 got) := hb.cell 3
  clear h hb sd hc ha
  go_enter Tryz.func99, Tryz.ntmps99
  go_wp2_with fail
  go_region_held3 (fun W => W.cell? ⟨gq, 0, none⟩ = some (.int .i64 t) ∧ W.cell? ⟨gq, 1, none⟩ = some (.int .i64 a) ∧ W.cell? ⟨gq, 3, none⟩ = some (.int .u64 got)) (first | exact HP.out _ _ M.out | go_keep) (first
    | (go_at_call 168; refine (HCl.out _).mono ?_; rintro e w1 ⟨rfl, x1⟩; replace M := Lib.hid (M.out.ext x1); clear x1)
    | (go_at_call 50; refine (HL.out _ M.out).mono ?_; rintro e w1 ⟨⟨u, rfl⟩, m1⟩; replace M := Lib.hid m1; clear m1))
  all_goals
    have y2 : w1.cell? ⟨gq, 2, none⟩ = some (.int .i64 4) := M.out.blk.cell 2
    have z2 : w1.frozen? ⟨gq, 2, none⟩ = false := M.out.blk.frozen 2
    have M2 := Lib.hid (M.out.put 2 (.int .i64 1))
    go_wp2_with fail
    (first | (refine bodyPost_ret (results_none rfl _ _ _) rfl ?_) | (refine bodyPost_end (results_none rfl _ _ _) rfl ?_))
    exact ⟨⟨_, rfl⟩, M2.out⟩
set_option maxRecDepth 100000 in
set_option maxHeartbeats 4000000 in
theorem rlr_1 (h : IsRMem B w g R rv st) (sd : Sound st.dev) (hc : Calm st) (hv : W64 (peekV st a)) (ha : I64 a) (hb : Blk w gq 157 (RLr.cells ⟨1, got, wd, wh⟩ t a)) (ho : ¬ rfoot g R rv gq) :
    Calls Tryz.prog 99 #[.pointer (some ⟨gq, 0, none⟩), .pointer (some ⟨g, 0, none⟩)] w (RPost B w g R rv gq 157 ((if BM.dirtyB (peekV st a) = true then (⟨2, peekV st a, wd, wh⟩ : RLr) else ⟨0, peekV st a, peekV st a, (st.load t a).clock⟩).cells t a) (st.load t a)) := by
  have M := Lib.hid ((RG.of h hb ho).ext ((Ext.refl w).drew))
  have HL : Hid (∀ W, RG B w W g R rv gq 157 (RLr.cells ⟨1, got, wd, wh⟩ t a) st → Calls Tryz.prog 50 #[.pointer (some ⟨g, 0, none⟩), .int .i64 1, .int .i64 t, .int .i64 a, .int .u64 0, .int .u64 0] W fun e w' => e = .returned (accV (st.load t a).last) ∧ RG B w w' g R rv gq 157 (RLr.cells ⟨1, got, wd, wh⟩ t a) (st.load t a)) := Lib.hid (fun W m => (refLoad7v m.ref sd hc t a 0 0 ha.1 ha.2).mono (by rintro e w' ⟨rfl, r1, f1⟩; exact ⟨rfl, m.to r1 f1⟩))
  obtain ⟨a1, a2, a3, a4, a5, hacc⟩ := load_tells st t a
  rw [hacc] at HL
  have hf3 := fun W => fldA3 a1 a2 a3 (peekV st a) a4 a5 W
  have HDi := Lib.hid (fun W => rdirty_any (peekV st a) hv.1 hv.2 W)
  have HP : Hid (∀ W s', RG B w W g R rv gq 157 (RLr.cells ⟨1, got, wd, wh⟩ t a) s' → W.cell? ⟨gq, 0, none⟩ = some (.int .i64 t) ∧ W.cell? ⟨gq, 1, none⟩ = some (.int .i64 a)) := Lib.hid (fun W s' m => ⟨m.blk.cell 0, m.blk.cell 1⟩)
  have HP2 : Hid (∀ W s' u, RG B w W g R rv gq 157 (RLr.cells ⟨1, got, wd, wh⟩ t a) s' → (W.setCell ⟨gq, 3, none⟩ u).cell? ⟨gq, 0, none⟩ = some (.int .i64 t) ∧ (W.setCell ⟨gq, 3, none⟩ u).cell? ⟨gq, 1, none⟩ = some (.int .i64 a)) := Lib.hid (fun W s' u m => ⟨(m.put 3 u).blk.cell 0, (m.put 3 u).blk.cell 1⟩)
  obtain ⟨ck, hck⟩ : ∃ ck, (st.load t a).clock = ck := ⟨_, rfl⟩
  rw [hck]
  have HCk := Lib.hid hck
  clear hck
  generalize BM.dirtyB (peekV st a) = d at *
  generalize peekV st a = v at *
  generalize st.load t a = st1 at *
  obtain ⟨rr, hrr⟩ : ∃ rr : RLr, (if d = true then (⟨2, v, wd, wh⟩ : RLr) else ⟨0, v, v, ck⟩) = rr := ⟨_, rfl⟩
  rw [hrr]
  have HRr := Lib.hid hrr
  clear hrr
  have c0 : w.cell? ⟨gq, 0, none⟩ = some (.int .i64 t) := hb.cell 0
  have c1 : w.cell? ⟨gq, 1, none⟩ = some (.int .i64 a) := hb.cell 1
  have c2 : w.cell? ⟨gq, 2, none⟩ = some (.int .i64 1) := hb.cell 2
  clear h hb sd hc ha hv hacc
  go_enter Tryz.func99, Tryz.ntmps99
  go_wp2_with fail
  go_region_held3 (fun W => W.cell? ⟨gq, 0, none⟩ = some (.int .i64 t) ∧ W.cell? ⟨gq, 1, none⟩ = some (.int .i64 a)) (first | exact HP.out _ _ M.out | exact HP2.out _ _ _ M.out | go_keep) (first
    | (go_at_call 50; refine (HL.out _ M.out).mono ?_; rintro e w1 ⟨rfl, m1⟩; replace M := Lib.hid m1; have y3 : w1.cell? ⟨gq, 3, none⟩ = some (.int .u64 got) := M.out.blk.cell 3; have z3 : w1.frozen? ⟨gq, 3, none⟩ = false := M.out.blk.frozen 3; clear m1))
  all_goals
    have y2 : w1.cell? ⟨gq, 2, none⟩ = some (.int .i64 1) := M.out.blk.cell 2
    have z2 : w1.frozen? ⟨gq, 2, none⟩ = false := M.out.blk.frozen 2
    have M2 : Hid (RG B w ((w1.setCell ⟨gq, 3, none⟩ (.int .u64 v)).setCell ⟨gq, 2, none⟩ (.int .i64 2)) g R rv gq 157 (RLr.cells ⟨2, v, wd, wh⟩ t a) st1) := Lib.hid ((M.out.put 3 (.int .u64 v)).put 2 (.int .i64 2))
    have d3 : ((w1.setCell ⟨gq, 3, none⟩ (.int .u64 v)).setCell ⟨gq, 2, none⟩ (.int .i64 2)).cell? ⟨gq, 3, none⟩ = some (.int .u64 v) := M2.out.blk.cell 3
    clear c0 c1 HP HP2 HL M
    go_wp2_with fail
    refine (HDi.out _).mono ?_
    rintro e w2 ⟨rfl, x2⟩
    have M3 := Lib.hid (M2.out.ext x2)
    have y3 : w2.cell? ⟨gq, 3, none⟩ = some (.int .u64 v) := M3.out.blk.cell 3
    have k4 : w2.cell? ⟨gq, 4, none⟩ = some (.int .u64 wd) := M3.out.blk.cell 4
    have l4 : w2.frozen? ⟨gq, 4, none⟩ = false := M3.out.blk.frozen 4
    have k5 : w2.cell? ⟨gq, 5, none⟩ = some (.int .i64 wh) := M3.out.blk.cell 5
    have l5 : w2.frozen? ⟨gq, 5, none⟩ = false := M3.out.blk.frozen 5
    have k2 : w2.cell? ⟨gq, 2, none⟩ = some (.int .i64 2) := M3.out.blk.cell 2
    have l2 : w2.frozen? ⟨gq, 2, none⟩ = false := M3.out.blk.frozen 2
    have g2 : w2.cell? ⟨g, 2, none⟩ = some (.int .i64 ck) := by rw [← HCk.out]; exact M3.out.ref.blk.cell 2
    have hne : ¬ g = gq := fun e => M3.out.off (Or.inl e.symm)
    have hne2 : ¬ gq = g := fun e => M3.out.off (Or.inl e)
    clear x2 d3 M2 y2 z2 z3
    cases d
    · have M6 := Lib.hid (((M3.out.put 4 (.int .u64 v)).put 5 (.int .i64 ck)).put 2 (.int .i64 0))
      go_wp2_with fail
      (first | (refine bodyPost_ret (results_none rfl _ _ _) rfl ?_) | (refine bodyPost_end (results_none rfl _ _ _) rfl ?_))
      have e9 : (⟨0, v, v, ck⟩ : RLr) = rr := by simpa using HRr.out
      rw [← e9]
      exact ⟨⟨_, rfl⟩, M6.out⟩
    · go_wp2_with fail
      (first | (refine bodyPost_ret (results_none rfl _ _ _) rfl ?_) | (refine bodyPost_end (results_none rfl _ _ _) rfl ?_))
      have e9 : (⟨2, v, wd, wh⟩ : RLr) = rr := by simpa using HRr.out
      rw [← e9]
      exact ⟨⟨_, rfl⟩, M3.out⟩
theorem rlrStep_ok {r : RLr} (h : IsRMem B w g R rv st) (sd : Sound st.dev) (hc : Calm st) {i : Nat} (hi : i ≤ 1000) (fine : Fine i st.dev) (ha : I64 a) (hb : Blk w gq 157 (r.cells t a)) (ho : ¬ rfoot g R rv gq) (hr : r.Wf) (hU : ∀ b, W64 (peekV st b)) :
    Calls Tryz.prog 99 #[.pointer (some ⟨gq, 0, none⟩), .pointer (some ⟨g, 0, none⟩)] w (RPost B w g R rv gq 157 ((rlrS t a r st).1.cells t a) (rlrS t a r st).2) := by
  obtain ⟨line, got, wd, wh⟩ := r
  obtain ⟨hl, hg⟩ := hr
  simp only at hl hg
  rcases hl with rfl | rfl | rfl | rfl | rfl
  · have M0 := Lib.hid (RG.of h hb ho)
    have c2 : w.cell? ⟨gq, 2, none⟩ = some (.int .i64 0) := hb.cell 2
    clear h hb sd hc fine hU
    go_enter Tryz.func99, Tryz.ntmps99
    go_wp2_with fail
    (first | (refine bodyPost_ret (results_none rfl _ _ _) rfl ?_) | (refine bodyPost_end (results_none rfl _ _ _) rfl ?_))
    exact ⟨⟨_, rfl⟩, M0.out⟩
  · exact rlr_1 h sd hc (hU a) ha hb ho
  · exact rlr_2 h sd hc hi fine ha hb ho
  · exact rlr_3 h sd hc hi fine ha hb ho
  · exact rlr_4 h sd hc hg ha hb ho
end
section
variable {B : Nat} {w : World} {g : Nat} {R : RefB} {rv : Value} {gq : Nat} {st : MSt} {t a old nw wh wr : Int} {put : Bool}
set_option maxRecDepth 100000 in
set_option maxHeartbeats 4000000 in
theorem rls_2 (h : IsRMem B w g R rv st) (sd : Sound st.dev) (hc : Calm st) {i : Nat} (hi : i ≤ 1000) (fine : Fine i st.dev) (ha : I64 a) (hb : Blk w gq 162 (RLs.cells ⟨2, put, wh, wr⟩ t a old nw)) (ho : ¬ rfoot g R rv gq) :
    Calls Tryz.prog 103 #[.pointer (some ⟨gq, 0, none⟩), .pointer (some ⟨g, 0, none⟩)] w (RPost B w g R rv gq 162 (RLs.cells ⟨3, put, wh, wr⟩ t a old nw) (st.flush t a)) := by
  have M := Lib.hid ((RG.of h hb ho).ext ((Ext.refl w).drew))
  have HL : Hid (∀ W, RG B w W g R rv gq 162 (RLs.cells ⟨2, put, wh, wr⟩ t a old nw) st → Calls Tryz.prog 50 #[.pointer (some ⟨g, 0, none⟩), .int .i64 4, .int .i64 t, .int .i64 a, .int .u64 0, .int .u64 0] W fun e w' => (∃ u, e = .returned u) ∧ RG B w w' g R rv gq 162 (RLs.cells ⟨2, put, wh, wr⟩ t a old nw) (st.flush t a)) := Lib.hid (fun W m => (refFlush7 m.ref sd hi fine hc t a 0 0 ha.1 ha.2).mono (by rintro e w' ⟨⟨u, rfl⟩, r1, f1⟩; exact ⟨⟨_, rfl⟩, m.to r1 f1⟩))
  have HP : Hid (∀ W s', RG B w W g R rv gq 162 (RLs.cells ⟨2, put, wh, wr⟩ t a old nw) s' → W.cell? ⟨gq, 0, none⟩ = some (.int .i64 t) ∧ W.cell? ⟨gq, 1, none⟩ = some (.int .i64 a)) := Lib.hid (fun W s' m => ⟨m.blk.cell 0, m.blk.cell 1⟩)
  generalize st.flush t a = st1 at *
  have c0 : w.cell? ⟨gq, 0, none⟩ = some (.int .i64 t) := hb.cell 0
  have c1 : w.cell? ⟨gq, 1, none⟩ = some (.int .i64 a) := hb.cell 1
  have c2 : w.cell? ⟨gq, 2, none⟩ = some (.int .i64 2) := hb.cell 2
  clear h hb sd hc ha fine
  go_enter Tryz.func103, Tryz.ntmps103
  go_wp2_with fail
  go_region_held3 (fun W => W.cell? ⟨gq, 0, none⟩ = some (.int .i64 t) ∧ W.cell? ⟨gq, 1, none⟩ = some (.int .i64 a)) (first | exact HP.out _ _ M.out | go_keep) (first
    | (go_at_call 50; refine (HL.out _ M.out).mono ?_; rintro e w1 ⟨⟨u, rfl⟩, m1⟩; replace M := Lib.hid m1; clear m1))
  all_goals
    have y2 : w1.cell? ⟨gq, 2, none⟩ = some (.int .i64 2) := M.out.blk.cell 2
    have z2 : w1.frozen? ⟨gq, 2, none⟩ = false := M.out.blk.frozen 2
    have M2 := Lib.hid (M.out.put 2 (.int .i64 3))
    go_wp2_with fail
    (first | (refine bodyPost_ret (results_none rfl _ _ _) rfl ?_) | (refine bodyPost_end (results_none rfl _ _ _) rfl ?_))
    exact ⟨⟨_, rfl⟩, M2.out⟩
set_option maxRecDepth 100000 in
set_option maxHeartbeats 4000000 in
theorem rls_3 (h : IsRMem B w g R rv st) (sd : Sound st.dev) (hc : Calm st) {i : Nat} (hi : i ≤ 1000) (fine : Fine i st.dev) (ha : I64 a) (hb : Blk w gq 162 (RLs.cells ⟨3, put, wh, wr⟩ t a old nw)) (ho : ¬ rfoot g R rv gq) :
    Calls Tryz.prog 103 #[.pointer (some ⟨gq, 0, none⟩), .pointer (some ⟨g, 0, none⟩)] w (RPost B w g R rv gq 162 (RLs.cells ⟨4, put, wh, wr⟩ t a old nw) (st.fence t)) := by
  have M := Lib.hid (RG.of h hb ho)
  have HL : Hid (∀ W, RG B w W g R rv gq 162 (RLs.cells ⟨3, put, wh, wr⟩ t a old nw) st → Calls Tryz.prog 50 #[.pointer (some ⟨g, 0, none⟩), .int .i64 5, .int .i64 t, .int .i64 0, .int .u64 0, .int .u64 0] W fun e w' => (∃ u, e = .returned u) ∧ RG B w w' g R rv gq 162 (RLs.cells ⟨3, put, wh, wr⟩ t a old nw) (st.fence t)) := Lib.hid (fun W m => (refFence7 m.ref sd hi fine hc t 0 0 0 (by decide) (by decide)).mono (by rintro e w' ⟨⟨u, rfl⟩, r1, f1⟩; exact ⟨⟨_, rfl⟩, m.to r1 f1⟩))
  generalize st.fence t = st1 at *
  have c0 : w.cell? ⟨gq, 0, none⟩ = some (.int .i64 t) := hb.cell 0
  have c2 : w.cell? ⟨gq, 2, none⟩ = some (.int .i64 3) := hb.cell 2
  clear h hb sd hc ha fine
  go_enter Tryz.func103, Tryz.ntmps103
  go_wp2_with fail
  refine (HL.out _ M.out).mono ?_
  rintro e w1 ⟨⟨u, rfl⟩, m1⟩
  replace M := Lib.hid m1
  clear m1
  have y2 : w1.cell? ⟨gq, 2, none⟩ = some (.int .i64 3) := M.out.blk.cell 2
  have z2 : w1.frozen? ⟨gq, 2, none⟩ = false := M.out.blk.frozen 2
  have M2 := Lib.hid (M.out.put 2 (.int .i64 4))
  go_wp2_with fail
  (first | (refine bodyPost_ret (results_none rfl _ _ _) rfl ?_) | (refine bodyPost_end (results_none rfl _ _ _) rfl ?_))
  exact ⟨⟨_, rfl⟩, M2.out⟩
set_option maxRecDepth 100000 in
set_option maxHeartbeats 4000000 in
theorem rls_4 (h : IsRMem B w g R rv st) (sd : Sound st.dev) (hc : Calm st) (hw : W64 nw) (ha : I64 a) (hb : Blk w gq 162 (RLs.cells ⟨4, put, wh, wr⟩ t a old nw)) (ho : ¬ rfoot g R rv gq) :
    Calls Tryz.prog 103 #[.pointer (some ⟨gq, 0, none⟩), .pointer (some ⟨g, 0, none⟩)] w (RPost B w g R rv gq 162 (RLs.cells ⟨0, put, wh, wr⟩ t a old nw) (st.swap t a (soN nw) nw)) := by
  have M := Lib.hid ((RG.of h hb ho).ext ((Ext.refl w).drew))
  have HL : Hid (∀ W, RG B w W g R rv gq 162 (RLs.cells ⟨4, put, wh, wr⟩ t a old nw) st → Calls Tryz.prog 50 #[.pointer (some ⟨g, 0, none⟩), .int .i64 3, .int .i64 t, .int .i64 a, .int .u64 (soN nw), .int .u64 nw] W fun e w' => (∃ u, e = .returned u) ∧ RG B w w' g R rv gq 162 (RLs.cells ⟨4, put, wh, wr⟩ t a old nw) (st.swap t a (soN nw) nw)) := Lib.hid (fun W m => (refSwap7v m.ref sd hc t a (soN nw) nw ha.1 ha.2).mono (by rintro e w' ⟨rfl, r1, f1⟩; exact ⟨⟨_, rfl⟩, m.to r1 f1⟩))
  have HSo : Hid (∀ W, Calls Tryz.prog 169 #[.int .u64 nw] W fun e w' => e = .returned (.int .u64 (soN nw)) ∧ Ext W w') := Lib.hid (fun W => rsoil_any nw hw.1 hw.2 W)
  have HP : Hid (∀ W s', RG B w W g R rv gq 162 (RLs.cells ⟨4, put, wh, wr⟩ t a old nw) s' → W.cell? ⟨gq, 0, none⟩ = some (.int .i64 t) ∧ W.cell? ⟨gq, 1, none⟩ = some (.int .i64 a) ∧ W.cell? ⟨gq, 4, none⟩ = some (.int .u64 nw)) := Lib.hid (fun W s' m => ⟨m.blk.cell 0, m.blk.cell 1, m.blk.cell 4⟩)
  generalize st.swap t a (soN nw) nw = st1 at *
  have c0 : w.cell? ⟨gq, 0, none⟩ = some (.int .i64 t) := hb.cell 0
  have c1 : w.cell? ⟨gq, 1, none⟩ = some (.int .i64 a) := hb.cell 1
  have c2 : w.cell? ⟨gq, 2, none⟩ = some (.int .i64 4) := hb.cell 2
  have c4 : w.cell? ⟨gq, 4, none⟩ = some (.int .u64 nw) := hb.cell 4
  clear h hb sd hc ha
  go_enter Tryz.func103, Tryz.ntmps103
  go_wp2_with fail
  go_region_held3 (fun W => W.cell? ⟨gq, 0, none⟩ = some (.int .i64 t) ∧ W.cell? ⟨gq, 1, none⟩ = some (.int .i64 a) ∧ W.cell? ⟨gq, 4, none⟩ = some (.int .u64 nw)) (first | exact HP.out _ _ M.out | go_keep) (first
    | (go_at_call 169; refine (HSo.out _).mono ?_; rintro e w1 ⟨rfl, x1⟩; replace M := Lib.hid (M.out.ext x1); clear x1)
    | (go_at_call 50; refine (HL.out _ M.out).mono ?_; rintro e w1 ⟨⟨u, rfl⟩, m1⟩; replace M := Lib.hid m1; clear m1))
  all_goals
    have y2 : w1.cell? ⟨gq, 2, none⟩ = some (.int .i64 4) := M.out.blk.cell 2
    have z2 : w1.frozen? ⟨gq, 2, none⟩ = false := M.out.blk.frozen 2
    have M2 := Lib.hid (M.out.put 2 (.int .i64 0))
    go_wp2_with fail
    (first | (refine bodyPost_ret (results_none rfl _ _ _) rfl ?_) | (refine bodyPost_end (results_none rfl _ _ _) rfl ?_))
    exact ⟨⟨_, rfl⟩, M2.out⟩
set_option maxRecDepth 100000 in
set_option maxHeartbeats 4000000 in
theorem rls_1 (h : IsRMem B w g R rv st) (sd : Sound st.dev) (hc : Calm st) (hw : W64 nw) (ha : I64 a) (hb : Blk w gq 162 (RLs.cells ⟨1, put, wh, wr⟩ t a old nw)) (ho : ¬ rfoot g R rv gq) :
    Calls Tryz.prog 103 #[.pointer (some ⟨gq, 0, none⟩), .pointer (some ⟨g, 0, none⟩)] w (RPost B w g R rv gq 162 ((if swapB st a old = true then (⟨2, true, (st.swap t a old (soN nw)).clock, if 0 ≤ a then writesV (st.swap t a old (soN nw)).dev a else wr⟩ : RLs) else ⟨0, put, wh, wr⟩).cells t a old nw) (st.swap t a old (soN nw))) := by
  have M0 : Hid (RG B w (w.setCell ⟨gq, 2, none⟩ (.int .i64 0)) g R rv gq 162 (RLs.cells ⟨0, put, wh, wr⟩ t a old nw) st) := Lib.hid ((RG.of h hb ho).put 2 (.int .i64 0))
  have HL : Hid (∀ W, RG B w W g R rv gq 162 (RLs.cells ⟨0, put, wh, wr⟩ t a old nw) st → Calls Tryz.prog 50 #[.pointer (some ⟨g, 0, none⟩), .int .i64 3, .int .i64 t, .int .i64 a, .int .u64 old, .int .u64 (soN nw)] W fun e w' => e = .returned (accV (st.swap t a old (soN nw)).last) ∧ RG B w w' g R rv gq 162 (RLs.cells ⟨0, put, wh, wr⟩ t a old nw) (st.swap t a old (soN nw))) := Lib.hid (fun W m => (refSwap7v m.ref sd hc t a old (soN nw) ha.1 ha.2).mono (by rintro e w' ⟨rfl, r1, f1⟩; exact ⟨rfl, m.to r1 f1⟩))
  have HSo : Hid (∀ W, Calls Tryz.prog 169 #[.int .u64 nw] W fun e w' => e = .returned (.int .u64 (soN nw)) ∧ Ext W w') := Lib.hid (fun W => rsoil_any nw hw.1 hw.2 W)
  obtain ⟨a1, a2, a3, a4, a5, hacc⟩ := swap_tells st t a old (soN nw)
  rw [hacc] at HL
  have hf5 := fun W => fldA5 a1 a2 a3 a4 a5 (swapB st a old) W
  have HP : Hid (∀ W s', RG B w W g R rv gq 162 (RLs.cells ⟨0, put, wh, wr⟩ t a old nw) s' → W.cell? ⟨gq, 0, none⟩ = some (.int .i64 t) ∧ W.cell? ⟨gq, 1, none⟩ = some (.int .i64 a) ∧ W.cell? ⟨gq, 3, none⟩ = some (.int .u64 old) ∧ W.cell? ⟨gq, 4, none⟩ = some (.int .u64 nw)) := Lib.hid (fun W s' m => ⟨m.blk.cell 0, m.blk.cell 1, m.blk.cell 3, m.blk.cell 4⟩)
  have HIn : Hid (swapB st a old = true → 0 ≤ a → a < ((st.swap t a old (soN nw)).dev.n : Int) * 8) := Lib.hid (fun h1 h0 => by
    rw [swap_n]
    unfold swapB peekB at h1
    rw [if_pos h0] at h1
    simp at h1
    exact h1.1)
  obtain ⟨ck, hck⟩ : ∃ ck, (st.swap t a old (soN nw)).clock = ck := ⟨_, rfl⟩
  rw [hck]
  have HCk := Lib.hid hck
  clear hck
  generalize swapB st a old = d at *
  generalize st.swap t a old (soN nw) = st1 at *
  obtain ⟨rr, hrr⟩ : ∃ rr : RLs, (if d = true then (⟨2, true, ck, if 0 ≤ a then writesV st1.dev a else wr⟩ : RLs) else ⟨0, put, wh, wr⟩) = rr := ⟨_, rfl⟩
  rw [hrr]
  have HRr := Lib.hid hrr
  clear hrr
  have hn1 := sd.n1
  clear hn1
  have c2 : w.cell? ⟨gq, 2, none⟩ = some (.int .i64 1) := hb.cell 2
  have z2 : w.frozen? ⟨gq, 2, none⟩ = false := hb.frozen 2
  have HA := Lib.hid ha
  clear h hb sd hc ha hacc hw
  go_enter Tryz.func103, Tryz.ntmps103
  go_upto_region 2 with fail
  generalize w.setCell ⟨gq, 2, none⟩ (.int .i64 0) = w0 at *
  have M := Lib.hid (M0.out.ext ((Ext.refl w0).drew))
  have c0 : w0.cell? ⟨gq, 0, none⟩ = some (.int .i64 t) := M0.out.blk.cell 0
  have c1 : w0.cell? ⟨gq, 1, none⟩ = some (.int .i64 a) := M0.out.blk.cell 1
  have c3 : w0.cell? ⟨gq, 3, none⟩ = some (.int .u64 old) := M0.out.blk.cell 3
  have c4 : w0.cell? ⟨gq, 4, none⟩ = some (.int .u64 nw) := M0.out.blk.cell 4
  clear c2 z2 M0
  go_wp2_with fail
  go_region_held3 (fun W => W.cell? ⟨gq, 0, none⟩ = some (.int .i64 t) ∧ W.cell? ⟨gq, 1, none⟩ = some (.int .i64 a) ∧ W.cell? ⟨gq, 3, none⟩ = some (.int .u64 old) ∧ W.cell? ⟨gq, 4, none⟩ = some (.int .u64 nw)) (first | exact HP.out _ _ M.out | go_keep) (first
    | (go_at_call 169; refine (HSo.out _).mono ?_; rintro e w1 ⟨rfl, x1⟩; replace M := Lib.hid (M.out.ext x1); clear x1)
    | (go_at_call 50; refine (HL.out _ M.out).mono ?_; rintro e w1 ⟨rfl, m1⟩; replace M := Lib.hid m1; clear m1))
  all_goals
    clear c0 c1 c3 c4 HP HL HSo
    cases d
    · go_wp2_with fail
      (first | (refine bodyPost_ret (results_none rfl _ _ _) rfl ?_) | (refine bodyPost_end (results_none rfl _ _ _) rfl ?_))
      have e9 : (⟨0, put, wh, wr⟩ : RLs) = rr := by simpa using HRr.out
      rw [← e9]
      exact ⟨⟨_, rfl⟩, M.out⟩
    · have HR2 : Hid ((⟨2, true, ck, if 0 ≤ a then writesV st1.dev a else wr⟩ : RLs) = rr) := Lib.hid (by simpa using HRr.out)
      have y5 : w1.cell? ⟨gq, 5, none⟩ = some (.bool put) := M.out.blk.cell 5
      have z5 : w1.frozen? ⟨gq, 5, none⟩ = false := M.out.blk.frozen 5
      have hne : ¬ g = gq := fun e => M.out.off (Or.inl e.symm)
      have hne2 : ¬ gq = g := fun e => M.out.off (Or.inl e)
      have y6 : w1.cell? ⟨gq, 6, none⟩ = some (.int .i64 wh) := M.out.blk.cell 6
      have z6 : w1.frozen? ⟨gq, 6, none⟩ = false := M.out.blk.frozen 6
      have g2 : w1.cell? ⟨g, 2, none⟩ = some (.int .i64 ck) := by rw [← HCk.out]; exact M.out.ref.blk.cell 2
      have M5 : Hid (RG B w ((w1.setCell ⟨gq, 5, none⟩ (.bool true)).setCell ⟨gq, 6, none⟩ (.int .i64 ck)) g R rv gq 162 (RLs.cells ⟨0, true, ck, wr⟩ t a old nw) st1) := Lib.hid ((M.out.put 5 (.bool true)).put 6 (.int .i64 ck))
      go_upto_region 5 with fail
      generalize (w1.setCell ⟨gq, 5, none⟩ (.bool true)).setCell ⟨gq, 6, none⟩ (.int .i64 ck) = w5 at *
      clear y5 z5 y6 z6 g2 M
      have c1 : w5.cell? ⟨gq, 1, none⟩ = some (.int .i64 a) := M5.out.blk.cell 1
      have y2 : w5.cell? ⟨gq, 2, none⟩ = some (.int .i64 0) := M5.out.blk.cell 2
      have z2 : w5.frozen? ⟨gq, 2, none⟩ = false := M5.out.blk.frozen 2
      have y7 : w5.cell? ⟨gq, 7, none⟩ = some (.int .i64 wr) := M5.out.blk.cell 7
      have z7 : w5.frozen? ⟨gq, 7, none⟩ = false := M5.out.blk.frozen 7
      by_cases h0 : 0 ≤ a
      · have hin := HIn.out rfl h0
        obtain ⟨p, rfl⟩ := Int.eq_ofNat_of_zero_le h0
        obtain ⟨m, hm⟩ : ∃ m, st1.dev.n = m := ⟨_, rfl⟩
        obtain ⟨q, hq⟩ : ∃ q : Nat, p / 8 = q := ⟨_, rfl⟩
        rw [hm] at hin
        have hqm : q < m := by omega
        have t1 : (p : Int).tdiv 8 = (q : Int) := by rw [Int.tdiv_eq_ediv_of_nonneg (by omega)]; omega
        have t2 : (p : Int) / 8 = (q : Int) := by omega
        have cg : w5.cell? ⟨g, 0, none⟩ = some (.pointer (some ⟨R.g, 0, none⟩)) := M5.out.ref.blk.cell 0
        have cr : w5.cell? ⟨R.g, 2, none⟩ = some (.slice (some ⟨R.gw, 0, none⟩) m m) := by rw [← hm]; exact M5.out.ref.dev.is.blk.cell 2
        have cw : w5.cell? ⟨R.gw, q, none⟩ = some (.int .i64 (st1.dev.writes.getD q 0)) := by
          have hh := M5.out.ref.dev.is
          have h2 := RowN.of_row hh.writes
          rw [hh.wlen, hm] at h2
          exact h2.cell (by omega)
        have HWV : Hid ((if (0 : Int) ≤ (p : Int) then writesV st1.dev (p : Int) else wr) = st1.dev.writes.getD q 0) := Lib.hid (by
          rw [if_pos h0]
          unfold writesV
          rw [hm, if_pos (by omega), t2]
          rfl)
        have HR3 : Hid ((⟨2, true, ck, st1.dev.writes.getD q 0⟩ : RLs) = rr) := Lib.hid (by rw [← HR2.out, HWV.out])
        generalize hwv : st1.dev.writes.getD q 0 = wv at *
        have p1 : decide ((0 : Int) ≤ (p : Int)) = true := by simp
        have p3 : decide (q < m) = true := by simp; omega
        have hl := HA.out.2
        have q2 : (q : Int) < 9223372036854775808 := by omega
        have q3 : -9223372036854775808 ≤ (q : Int) := by omega
        have q4 : (0 : Int) ≤ (q : Int) := by omega
        have q5 : (q : Int) < (m : Int) := by omega
        have q6 : IntKind.i64.wrap (q : Int) = (q : Int) := i64w _ (by omega) (by omega)
        have q7 : IntKind.i64.wrap ((p : Int).tdiv 8) = (q : Int) := by rw [t1]; exact q6
        have M7 := Lib.hid ((M5.out.put 7 (.int .i64 wv)).put 2 (.int .i64 2))
        have hr1 : ¬ R.g = gq := fun e => M5.out.off (Or.inr (Or.inr (Or.inl e.symm)))
        have hr2 : ¬ R.gw = gq := fun e => M5.out.off (Or.inr (Or.inr (Or.inr (Or.inr (Or.inr (Or.inl e.symm))))))
        have m8 := (M5.out.put 7 (.int .i64 wv)).ext ((Ext.refl (w5.setCell ⟨gq, 7, none⟩ (.int .i64 wv))).drew)
        have hs8 : ((w5.setCell ⟨gq, 7, none⟩ (.int .i64 wv)).drew).cell? ⟨gq, 1, none⟩ = some (.int .i64 (p : Int)) ∧ ((w5.setCell ⟨gq, 7, none⟩ (.int .i64 wv)).drew).cell? ⟨g, 0, none⟩ = some (.pointer (some ⟨R.g, 0, none⟩)) ∧ ((w5.setCell ⟨gq, 7, none⟩ (.int .i64 wv)).drew).cell? ⟨R.g, 2, none⟩ = some (.slice (some ⟨R.gw, 0, none⟩) m m) ∧ ((w5.setCell ⟨gq, 7, none⟩ (.int .i64 wv)).drew).cell? ⟨R.gw, q, none⟩ = some (.int .i64 wv) := by
          refine ⟨m8.blk.cell 1, m8.ref.blk.cell 0, ?_, ?_⟩
          · rw [← hm]; exact m8.ref.dev.is.blk.cell 2
          · have hh := m8.ref.dev.is
            have h2 := RowN.of_row hh.writes
            rw [hh.wlen, hm] at h2
            have h3 := h2.cell (j := q) (by omega)
            rw [hwv] at h3
            exact h3
        clear m8
        generalize R.g = rg at cg cr hr1 hs8
        generalize R.gw = rgw at cr cw hr2 hs8
        clear hm hq hin HWV HIn hwv
        go_wp2_with fail
        go_region_held3 (fun W => W.cell? ⟨gq, 1, none⟩ = some (.int .i64 (p : Int)) ∧ W.cell? ⟨g, 0, none⟩ = some (.pointer (some ⟨rg, 0, none⟩)) ∧ W.cell? ⟨rg, 2, none⟩ = some (.slice (some ⟨rgw, 0, none⟩) m m) ∧ W.cell? ⟨rgw, q, none⟩ = some (.int .i64 wv)) (first | exact ⟨c1, cg, cr, cw⟩ | exact hs8 | go_keep) (fail)
        all_goals
        go_wp2_with fail
        (first | (refine bodyPost_ret (results_none rfl _ _ _) rfl ?_) | (refine bodyPost_end (results_none rfl _ _ _) rfl ?_))
        rw [← HR3.out]
        first | exact ⟨⟨_, rfl⟩, M7.out⟩ | exact ⟨⟨_, rfl⟩, M7.out.ext ((Ext.refl _).drew)⟩
      · have p1 : decide (0 ≤ a) = false := by simp; omega
        have HR3 : Hid ((⟨2, true, ck, wr⟩ : RLs) = rr) := Lib.hid (by rw [← HR2.out, if_neg h0])
        have M7 := Lib.hid (M5.out.put 2 (.int .i64 2))
        clear HIn
        go_wp2_with fail
        (first | (refine bodyPost_ret (results_none rfl _ _ _) rfl ?_) | (refine bodyPost_end (results_none rfl _ _ _) rfl ?_))
        rw [← HR3.out]
        first | exact ⟨⟨_, rfl⟩, M7.out⟩ | exact ⟨⟨_, rfl⟩, M7.out.ext ((Ext.refl _).drew)⟩
theorem rlsStep_ok {r : RLs} (h : IsRMem B w g R rv st) (sd : Sound st.dev) (hc : Calm st) {i : Nat} (hi : i ≤ 1000) (fine : Fine i st.dev) (ha : I64 a) (hb : Blk w gq 162 (r.cells t a old nw)) (ho : ¬ rfoot g R rv gq) (hl : r.line = 0 ∨ r.line = 1 ∨ r.line = 2 ∨ r.line = 3 ∨ r.line = 4) (hw : W64 nw) :
    Calls Tryz.prog 103 #[.pointer (some ⟨gq, 0, none⟩), .pointer (some ⟨g, 0, none⟩)] w (RPost B w g R rv gq 162 ((rlsS t a old nw r st).1.cells t a old nw) (rlsS t a old nw r st).2) := by
  obtain ⟨line, put, wh, wr⟩ := r
  simp only at hl
  rcases hl with rfl | rfl | rfl | rfl | rfl
  · have M0 := Lib.hid (RG.of h hb ho)
    have c2 : w.cell? ⟨gq, 2, none⟩ = some (.int .i64 0) := hb.cell 2
    clear h hb sd hc fine
    go_enter Tryz.func103, Tryz.ntmps103
    go_wp2_with fail
    (first | (refine bodyPost_ret (results_none rfl _ _ _) rfl ?_) | (refine bodyPost_end (results_none rfl _ _ _) rfl ?_))
    exact ⟨⟨_, rfl⟩, M0.out⟩
  · exact rls_1 h sd hc hw ha hb ho
  · exact rls_2 h sd hc hi fine ha hb ho
  · exact rls_3 h sd hc hi fine ha hb ho
  · exact rls_4 h sd hc hw ha hb ho
end
theorem rnewRead_ok (w : World) (t a : Int) : Calls Tryz.prog 166 #[.int .i64 t, .int .i64 a] w fun e w' => ∃ g, e = .returned (.pointer (some ⟨g, 0, none⟩)) ∧ w.heap.size ≤ g ∧ Blk w' g 157 (RLr.cells ⟨1, 0, 0, -1⟩ t a) ∧ Ext w w' := by
  go_enter Tryz.func166, Tryz.ntmps166
  go_wp2_with fail
  go_ret
  exact ⟨w.heap.size, rfl, Nat.le_refl _, Blk.new w _ _, (Ext.refl w).alloc _⟩
theorem rnewSet_ok (w : World) (t a old wd : Int) (ho : W64 old) (hw : W64 wd) : Calls Tryz.prog 102 #[.int .i64 t, .int .i64 a, .int .u64 old, .int .u64 wd] w fun e w' => ∃ g, e = .returned (.pointer (some ⟨g, 0, none⟩)) ∧ w.heap.size ≤ g ∧ Blk w' g 162 (RLs.cells ⟨1, false, -1, 0⟩ t a (clN old) (clN wd)) ∧ Ext w w' := by
  have HS : Hid (∀ W, Calls Tryz.prog 168 #[.int .u64 wd] W fun e w' => e = .returned (.int .u64 (clN wd)) ∧ Ext W w') := Lib.hid (fun W => rclean_any wd hw.1 hw.2 W)
  have HC : Hid (∀ W, Calls Tryz.prog 168 #[.int .u64 old] W fun e w' => e = .returned (.int .u64 (clN old)) ∧ Ext W w') := Lib.hid (fun W => rclean_any old ho.1 ho.2 W)
  clear ho hw
  generalize clN wd = z at *
  generalize clN old = y at *
  go_enter Tryz.func102, Tryz.ntmps102
  go_wp2_with fail
  refine (HC.out _).mono ?_
  rintro e w1 ⟨rfl, x1⟩
  go_wp2_with fail
  refine (HS.out _).mono ?_
  rintro e w2 ⟨rfl, x2⟩
  have X2 := Lib.hid (x1.trans x2)
  clear x1 x2
  go_wp2_with fail
  go_ret
  exact ⟨w2.heap.size, rfl, X2.out.size, Blk.new w2 _ _, X2.out.alloc _⟩
end Go.Proofs.YtbicloceaddinaaGreat

