/- Package link: each step of a Read and of a Set. Conditions: those that each theorem names. -/
import Derived.Test.YtolengkegjipaaaGreatKLkA
import Derived.Deep.RegionHeld3
import Derived.Lib.QuietBelow
import Derived.Deep.DeepCutAuto
namespace Go.Proofs.YtolengkegjipaaaGreat
open Go.ChangeShapes Go.WideShapes Go.ChangeAt Go.RowKit
set_option linter.unusedVariables false
theorem writes_no (B : Nat) (w : World) (D : DevB) (s : DSt) (h : IsDev B w D s) (at_ : Int) (ha : at_ < 0 ∨ (s.n : Int) ≤ at_) :
    Calls Tryz.prog 129 #[D.ptr, .int .i64 at_] w fun e w' => e = .returned (.int .i64 0) ∧ w = w' := by
  unfold DevB.ptr
  have HC : Hid (Calls Tryz.prog 123 #[.pointer (some ⟨D.gd, 0, none⟩), .int .i64 at_] w fun e w' => e = .returned (.int .i64 5) ∧ w = w') := by
    rcases ha with ha | ha
    · exact Lib.hid (askL_lo _ _ _ _ at_ ha w h.n1 h.c0)
    · exact Lib.hid (askL_hi _ _ _ _ at_ (by omega) w h.n1 h.c0)
  clear ha
  go_enter Tryz.func129, Tryz.ntmps129
  go_wp2_with fail
  refine HC.out.mono ?_
  rintro e w' ⟨rfl, rfl⟩
  go_wp2_with fail
  go_ret
  exact ⟨rfl, rfl⟩
section
variable {Q : Nat → Prop} {wb w0 w : World} {gm : Nat} {dv pv v : Value} {s : MSt}
theorem AtQ.writesAny {s : DSt} (h : AtQ Q wb w0 w v s) (a : Int) : Calls Tryz.prog 129 #[v, .int .i64 (lineNo a)] w fun e w' => e = .returned (.int .i64 (writesV s a)) ∧ w = w' := by
  obtain ⟨D, rfl, h, ext, hQ⟩ := h
  unfold lineNo writesV
  by_cases ha : 0 ≤ a ∧ a < (s.n : Int) * 8
  · rw [if_neg (by omega), if_pos ha]
    obtain ⟨q, hq⟩ := Int.eq_ofNat_of_zero_le (show 0 ≤ a / 8 by omega)
    rw [hq]
    exact writes_ok _ _ _ _ h q (by omega)
  · rw [if_neg ha]
    by_cases hn : a < 0
    · rw [if_pos hn]
      exact writes_no _ _ _ _ h _ (by omega)
    · rw [if_neg hn]
      exact writes_no _ _ _ _ h _ (by omega)
set_option maxRecDepth 100000 in
set_option maxHeartbeats 1000000 in
theorem memWrites_ok (h : IsMem Q wb w0 w gm dv pv s) (a : Int) (h1 : a < 9223372036854775808) : Calls Tryz.prog 126 #[.pointer (some ⟨gm, 0, none⟩), .int .i64 a] w fun e w' => e = .returned (.int .i64 (writesV s.dev a)) ∧ Ext w w' := by
  have c0 : w.cell? ⟨gm, 0, none⟩ = some dv := h.blk.cell 0
  have HL := Lib.hid (fun W => lineOf_any a W h1)
  have HWr := Lib.hid (fun (W : World) (x : Ext w W) => (h.ext x).dev.writesAny a)
  have xt : Ext w w.drew := (Ext.refl w).drew
  clear h
  generalize writesV s.dev a = y at *
  generalize lineNo a = l at *
  go_enter Tryz.func126, Tryz.ntmps126
  go_wp2_with fail
  go_region_with (first
    | (go_at_call 116; refine (HL.out _).mono ?_; rintro e w' ⟨rfl, rfl⟩)
    | (go_at_call 129; refine (HWr.out _ xt).mono ?_; rintro e w' ⟨rfl, rfl⟩))
  all_goals
    go_wp2_with fail
    go_ret
    exact ⟨rfl, xt⟩
end
section
variable {Q : Nat → Prop} {w0 w : World} {gm gp : Nat} {T : TypeId} {dv pv : Value} {s : MSt} {t a part wd wh : Int} {dn : Bool} {cs : List Value}
set_option maxRecDepth 100000 in
set_option maxHeartbeats 4000000 in
theorem keep_1 (h : IsMem Q w w0 w gm dv pv s) (hc : Calm s) {i : Nat} (hi : i ≤ 1000) (fine : Fine i s.dev) (ha : I64 a) (hb : Blk w gp T (lkC t a 1 wd wh dn cs)) (qp : Q gp) (p0 : w0.heap.size ≤ gp) :
    Calls Tryz.prog 96 #[.pointer (some ⟨gp, 0, none⟩), .pointer (some ⟨gm, 0, none⟩)] w (StepPost Q w0 w gm gp T dv pv (s.flush t a) false (lkC t a 2 wd wh dn cs)) := by
  have HK : Hid (∀ W s', IsMem Q w w0 W gm dv pv s' → Blk W gp T (lkC t a 1 wd wh dn cs)) := Lib.hid (fun W s' m => (m.keptQ gp qp).trans hb)
  have HP : Hid (∀ W s', IsMem Q w w0 W gm dv pv s' → W.cell? ⟨gp, 0, none⟩ = some (.int .i64 t) ∧ W.cell? ⟨gp, 1, none⟩ = some (.int .i64 a)) := Lib.hid (fun W s' m => ⟨(HK.out W s' m).cell 0, (HK.out W s' m).cell 1⟩)
  have HL : Hid (∀ W, IsMem Q w w0 W gm dv pv s → Calls Tryz.prog 104 #[.pointer (some ⟨gm, 0, none⟩), .int .i64 t, .int .i64 a] W fun e w' => (∃ u, e = .returned u) ∧ IsMem Q w w0 w' gm dv pv (s.flush t a)) := Lib.hid (fun W m => memFlush_ok m t a ha.2 hi fine hc)
  have M := Lib.hid (h.ext ((Ext.refl w).drew))
  generalize s.flush t a = s1 at *
  have c0 : w.cell? ⟨gp, 0, none⟩ = some (.int .i64 t) := hb.cell 0
  have c1 : w.cell? ⟨gp, 1, none⟩ = some (.int .i64 a) := hb.cell 1
  have c2 : w.cell? ⟨gp, 2, none⟩ = some (.int .i64 1) := hb.cell 2
  clear h hb hc ha fine
  go_enter Tryz.func96, Tryz.ntmps96
  go_wp2_with fail
  go_region_held3 (fun W => W.cell? ⟨gp, 0, none⟩ = some (.int .i64 t) ∧ W.cell? ⟨gp, 1, none⟩ = some (.int .i64 a)) (first | exact HP.out _ _ M.out | go_keep) (first
    | (go_at_call 104; refine (HL.out _ M.out).mono ?_; rintro e w1 ⟨⟨u, rfl⟩, m1⟩; replace M := Lib.hid m1; clear m1))
  all_goals
    have y2 : w1.cell? ⟨gp, 2, none⟩ = some (.int .i64 1) := (HK.out _ _ M.out).cell 2
    have z2 : w1.frozen? ⟨gp, 2, none⟩ = false := (HK.out _ _ M.out).frozen 2
    go_wp2_with fail
    go_ret
    have f : Fr (fun b => b = gp) w1 (w1.setCell ⟨gp, 2, none⟩ (.int .i64 2)) := Fr.setCell (S := fun b => b = gp) (p := ⟨gp, 2, none⟩) (Fr.refl _ w1) (Or.inl rfl) _
    refine ⟨rfl, M.out.turn f (fun b e => by rw [e]; exact qp) (fun b e => by rw [e]; exact p0), (HK.out _ _ M.out).set 2 _, fun b hb hne => ?_⟩
    exact (f.block b (M.out.lt.2 b hb) hne).trans (M.out.keptQ b hb)
set_option maxRecDepth 100000 in
set_option maxHeartbeats 4000000 in
theorem keep_2 (h : IsMem Q w w0 w gm dv pv s) (hc : Calm s) {i : Nat} (hi : i ≤ 1000) (fine : Fine i s.dev) (ha : I64 a) (hb : Blk w gp T (lkC t a 2 wd wh dn cs)) (qp : Q gp) (p0 : w0.heap.size ≤ gp) :
    Calls Tryz.prog 96 #[.pointer (some ⟨gp, 0, none⟩), .pointer (some ⟨gm, 0, none⟩)] w (StepPost Q w0 w gm gp T dv pv (s.fence t) false (lkC t a 3 wd wh dn cs)) := by
  have HK : Hid (∀ W s', IsMem Q w w0 W gm dv pv s' → Blk W gp T (lkC t a 2 wd wh dn cs)) := Lib.hid (fun W s' m => (m.keptQ gp qp).trans hb)
  have HL : Hid (∀ W, IsMem Q w w0 W gm dv pv s → Calls Tryz.prog 105 #[.pointer (some ⟨gm, 0, none⟩), .int .i64 t] W fun e w' => (∃ u, e = .returned u) ∧ IsMem Q w w0 w' gm dv pv (s.fence t)) := Lib.hid (fun W m => memFence_ok m t hi fine hc)
  have M := Lib.hid h
  generalize s.fence t = s1 at *
  have c0 : w.cell? ⟨gp, 0, none⟩ = some (.int .i64 t) := hb.cell 0
  have c2 : w.cell? ⟨gp, 2, none⟩ = some (.int .i64 2) := hb.cell 2
  clear h hb hc ha fine
  go_enter Tryz.func96, Tryz.ntmps96
  go_wp2_with fail
  refine (HL.out _ M.out).mono ?_
  rintro e w1 ⟨⟨u, rfl⟩, m1⟩
  replace M := Lib.hid m1
  clear m1
  have y2 : w1.cell? ⟨gp, 2, none⟩ = some (.int .i64 2) := (HK.out _ _ M.out).cell 2
  have z2 : w1.frozen? ⟨gp, 2, none⟩ = false := (HK.out _ _ M.out).frozen 2
  go_wp2_with fail
  go_ret
  have f : Fr (fun b => b = gp) w1 (w1.setCell ⟨gp, 2, none⟩ (.int .i64 3)) := Fr.setCell (S := fun b => b = gp) (p := ⟨gp, 2, none⟩) (Fr.refl _ w1) (Or.inl rfl) _
  refine ⟨rfl, M.out.turn f (fun b e => by rw [e]; exact qp) (fun b e => by rw [e]; exact p0), (HK.out _ _ M.out).set 2 _, fun b hb hne => ?_⟩
  exact (f.block b (M.out.lt.2 b hb) hne).trans (M.out.keptQ b hb)
set_option maxRecDepth 100000 in
set_option maxHeartbeats 4000000 in
theorem keep_3 (h : IsMem Q w w0 w gm dv pv s) (hc : Calm s) (ha : I64 a) (hw : W64 wd) (hb : Blk w gp T (lkC t a 3 wd wh dn cs)) (qp : Q gp) (p0 : w0.heap.size ≤ gp) :
    Calls Tryz.prog 96 #[.pointer (some ⟨gp, 0, none⟩), .pointer (some ⟨gm, 0, none⟩)] w (StepPost Q w0 w gm gp T dv pv (s.swap t a wd (clN wd)) true (lkC t a 3 wd wh dn cs)) := by
  have HK : Hid (∀ W s', IsMem Q w w0 W gm dv pv s' → Blk W gp T (lkC t a 3 wd wh dn cs)) := Lib.hid (fun W s' m => (m.keptQ gp qp).trans hb)
  have HP : Hid (∀ W s', IsMem Q w w0 W gm dv pv s' → W.cell? ⟨gp, 0, none⟩ = some (.int .i64 t) ∧ W.cell? ⟨gp, 1, none⟩ = some (.int .i64 a) ∧ W.cell? ⟨gp, 3, none⟩ = some (.int .u64 wd)) := Lib.hid (fun W s' m => ⟨(HK.out W s' m).cell 0, (HK.out W s' m).cell 1, (HK.out W s' m).cell 3⟩)
  have HL : Hid (∀ W, IsMem Q w w0 W gm dv pv s → Calls Tryz.prog 106 #[.pointer (some ⟨gm, 0, none⟩), .int .i64 t, .int .i64 a, .int .u64 wd, .int .u64 (clN wd)] W fun e w' => (∃ u, e = .returned u) ∧ IsMem Q w w0 w' gm dv pv (s.swap t a wd (clN wd))) := Lib.hid (fun W m => (memSwap_ok m t a wd (clN wd) ha.1 ha.2 (clN_rng wd) hc).mono fun e w' hh => ⟨⟨_, hh.1⟩, hh.2⟩)
  have HCl : Hid (∀ W, Calls Tryz.prog 107 #[.int .u64 wd] W fun e w' => e = .returned (.int .u64 (clN wd)) ∧ Ext w' w' ∧ Ext W w') := Lib.hid (fun W => (clean_any wd hw.1 hw.2 W).mono fun e w' hh => ⟨hh.1, Ext.refl _, hh.2⟩)
  have M := Lib.hid (h.ext ((Ext.refl w).drew))
  generalize s.swap t a wd (clN wd) = s1 at *
  have c0 : w.cell? ⟨gp, 0, none⟩ = some (.int .i64 t) := hb.cell 0
  have c1 : w.cell? ⟨gp, 1, none⟩ = some (.int .i64 a) := hb.cell 1
  have c3 : w.cell? ⟨gp, 3, none⟩ = some (.int .u64 wd) := hb.cell 3
  have c2 : w.cell? ⟨gp, 2, none⟩ = some (.int .i64 3) := hb.cell 2
  clear h hb hc ha hw
  go_enter Tryz.func96, Tryz.ntmps96
  go_wp2_with fail
  go_region_held3 (fun W => W.cell? ⟨gp, 0, none⟩ = some (.int .i64 t) ∧ W.cell? ⟨gp, 1, none⟩ = some (.int .i64 a) ∧ W.cell? ⟨gp, 3, none⟩ = some (.int .u64 wd)) (first | exact HP.out _ _ M.out | go_keep) (first
    | (go_at_call 107; refine (HCl.out _).mono ?_; rintro e w1 ⟨rfl, -, x1⟩; replace M := Lib.hid (M.out.ext x1); clear x1)
    | (go_at_call 106; refine (HL.out _ M.out).mono ?_; rintro e w1 ⟨⟨u, rfl⟩, m1⟩; replace M := Lib.hid m1; clear m1))
  all_goals
    go_wp2_with fail
    go_ret
    exact ⟨rfl, M.out.here, HK.out _ _ M.out, fun b hb hne => M.out.keptQ b hb⟩
end
theorem lrDone_ok (w : World) (g : Nat) (d : Bool) (c5 : w.cell? ⟨g, 5, none⟩ = some (.bool d)) :
    Calls Tryz.prog 94 #[.pointer (some ⟨g, 0, none⟩)] w fun e w' => e = .returned (.bool d) ∧ w = w' := by
  go_enter Tryz.func94, Tryz.ntmps94
  go_wp2_with fail
  go_ret
  exact ⟨rfl, rfl⟩
theorem lsDone_ok (w : World) (g : Nat) (d : Bool) (c5 : w.cell? ⟨g, 5, none⟩ = some (.bool d)) :
    Calls Tryz.prog 120 #[.pointer (some ⟨g, 0, none⟩)] w fun e w' => e = .returned (.bool d) ∧ w = w' := by
  go_enter Tryz.func120, Tryz.ntmps120
  go_wp2_with fail
  go_ret
  exact ⟨rfl, rfl⟩
section
variable {Q : Nat → Prop} {w0 w : World} {gm gp : Nat} {dv pv : Value} {s : MSt} {t a wd wh : Int}
set_option maxRecDepth 100000 in
set_option maxHeartbeats 4000000 in
theorem lrLoad_ok (h : IsMem Q w w0 w gm dv pv s) (hc : Calm s) (ha : I64 a) (hb : Blk w gp 147 (lkC t a 0 wd wh false [])) (qp : Q gp) (p0 : w0.heap.size ≤ gp) :
    Calls Tryz.prog 95 #[.pointer (some ⟨gp, 0, none⟩), .pointer (some ⟨gm, 0, none⟩)] w fun e w' => (∃ u, e = .returned u) ∧ IsMem Q w' w0 w' gm dv pv (s.load t a) ∧ Blk w' gp 147 (if BM.dirtyB (peekV s a) = true then lkC t a 1 (peekV s a) wh false [] else lkC t a 0 (peekV s a) (s.load t a).clock true []) ∧ (∀ b, Q b → b ≠ gp → w'.heap[b]? = w.heap[b]?) := by
  have HK : Hid (∀ W s', IsMem Q w w0 W gm dv pv s' → Blk W gp 147 (lkC t a 0 wd wh false [])) := Lib.hid (fun W s' m => (m.keptQ gp qp).trans hb)
  have HP : Hid (∀ W s', IsMem Q w w0 W gm dv pv s' → W.cell? ⟨gp, 0, none⟩ = some (.int .i64 t) ∧ W.cell? ⟨gp, 1, none⟩ = some (.int .i64 a)) := Lib.hid (fun W s' m => ⟨(HK.out W s' m).cell 0, (HK.out W s' m).cell 1⟩)
  have HP2 : Hid (∀ W s' u, IsMem Q w w0 W gm dv pv s' → (W.setCell ⟨gp, 3, none⟩ u).cell? ⟨gp, 0, none⟩ = some (.int .i64 t) ∧ (W.setCell ⟨gp, 3, none⟩ u).cell? ⟨gp, 1, none⟩ = some (.int .i64 a)) := Lib.hid (fun W s' u m => ⟨((HK.out W s' m).set 3 u).cell 0, ((HK.out W s' m).set 3 u).cell 1⟩)
  have HL : Hid (∀ W, IsMem Q w w0 W gm dv pv s → Calls Tryz.prog 101 #[.pointer (some ⟨gm, 0, none⟩), .int .i64 t, .int .i64 a] W fun e w' => e = .returned (.int .u64 (peekV s a)) ∧ IsMem Q w w0 w' gm dv pv (s.load t a)) := Lib.hid (fun W m => memLoad_ok m t a ha.1 ha.2 hc)
  have hv := h.peekU a
  have HDi := Lib.hid (fun W => dirty_any (peekV s a) hv.1 hv.2 W)
  have HCk : Hid (∀ W wb, IsMem Q wb w0 W gm dv pv (s.load t a) → Calls Tryz.prog 103 #[.pointer (some ⟨gm, 0, none⟩)] W fun e w' => e = .returned (.int .i64 (s.load t a).clock) ∧ W = w') := Lib.hid (fun W wb m => memClock_ok m)
  have M := Lib.hid (h.ext ((Ext.refl w).drew))
  generalize (s.load t a).clock = ck at *
  generalize s.load t a = s1 at *
  generalize BM.dirtyB (peekV s a) = d at *
  generalize peekV s a = v at *
  have c0 : w.cell? ⟨gp, 0, none⟩ = some (.int .i64 t) := hb.cell 0
  have c1 : w.cell? ⟨gp, 1, none⟩ = some (.int .i64 a) := hb.cell 1
  clear h hb hc ha hv
  go_enter Tryz.func95, Tryz.ntmps95
  go_wp2_with fail
  go_region_held3 (fun W => W.cell? ⟨gp, 0, none⟩ = some (.int .i64 t) ∧ W.cell? ⟨gp, 1, none⟩ = some (.int .i64 a)) (first | exact HP.out _ _ M.out | exact HP2.out _ _ _ M.out | go_keep) (first
    | (go_at_call 101; refine (HL.out _ M.out).mono ?_; rintro e w1 ⟨rfl, m1⟩; replace M := Lib.hid m1; have y3 : w1.cell? ⟨gp, 3, none⟩ = some (.int .u64 wd) := (HK.out _ _ m1).cell 3; have z3 : w1.frozen? ⟨gp, 3, none⟩ = false := (HK.out _ _ m1).frozen 3; clear m1))
  all_goals
    have f : Fr (fun b => b = gp) w1 (w1.setCell ⟨gp, 3, none⟩ (.int .u64 v)) := Fr.setCell (S := fun b => b = gp) (p := ⟨gp, 3, none⟩) (Fr.refl _ w1) (Or.inl rfl) _
    have M1 := Lib.hid (M.out.turn f (fun b e => by rw [e]; exact qp) (fun b e => by rw [e]; exact p0))
    have B1 : Hid (Blk (w1.setCell ⟨gp, 3, none⟩ (.int .u64 v)) gp 147 (lkC t a 0 v wh false [])) := Lib.hid ((HK.out _ _ M.out).set 3 _)
    have K1 : Hid (∀ b, Q b → b ≠ gp → (w1.setCell ⟨gp, 3, none⟩ (.int .u64 v)).heap[b]? = w.heap[b]?) := Lib.hid (fun b hb hne => (f.block b (M.out.lt.2 b hb) hne).trans (M.out.keptQ b hb))
    have d3 : (w1.setCell ⟨gp, 3, none⟩ (.int .u64 v)).cell? ⟨gp, 3, none⟩ = some (.int .u64 v) := B1.out.cell 3
    clear f y3 z3 c0 c1 HP HP2 HK HL
    generalize (w1.setCell ⟨gp, 3, none⟩ (.int .u64 v)) = w2 at *
    go_wp2_with fail
    refine (HDi.out _).mono ?_
    rintro e w3 ⟨rfl, x3⟩
    have M3 := Lib.hid (M1.out.ext x3)
    have B3 := Lib.hid (B1.out.ext x3)
    have K3 : Hid (∀ b, Q b → b ≠ gp → w3.heap[b]? = w.heap[b]?) := Lib.hid (fun b hb hne => (x3.block b (M1.out.lt.2 b hb)).trans (K1.out b hb hne))
    have y2 : w3.cell? ⟨gp, 2, none⟩ = some (.int .i64 0) := B3.out.cell 2
    have z2 : w3.frozen? ⟨gp, 2, none⟩ = false := B3.out.frozen 2
    have y4 : w3.cell? ⟨gp, 4, none⟩ = some (.int .i64 wh) := B3.out.cell 4
    have z4 : w3.frozen? ⟨gp, 4, none⟩ = false := B3.out.frozen 4
    have y5 : w3.cell? ⟨gp, 5, none⟩ = some (.bool false) := B3.out.cell 5
    have z5 : w3.frozen? ⟨gp, 5, none⟩ = false := B3.out.frozen 5
    clear x3 d3 M1 B1 K1 M
    cases d
    · go_wp2_with fail
      refine (HCk.out _ _ M3.out).mono ?_
      rintro e w4 ⟨rfl, rfl⟩
      go_wp2_with fail
      (first | (refine bodyPost_ret (results_none rfl _ _ _) rfl ?_) | (refine bodyPost_end (results_none rfl _ _ _) rfl ?_))
      have g : Fr (fun b => b = gp) w3 ((w3.setCell ⟨gp, 4, none⟩ (.int .i64 ck)).setCell ⟨gp, 5, none⟩ (.bool true)) := Fr.setCell (S := fun b => b = gp) (p := ⟨gp, 5, none⟩) (Fr.setCell (S := fun b => b = gp) (p := ⟨gp, 4, none⟩) (Fr.refl _ w3) (Or.inl rfl) _) (Or.inl rfl) _
      refine ⟨⟨_, rfl⟩, M3.out.turn g (fun b e => by rw [e]; exact qp) (fun b e => by rw [e]; exact p0), ?_, fun b hb hne => ?_⟩
      · first | exact (B3.out.set 4 _).set 5 _ | (rw [if_neg (by decide)]; exact (B3.out.set 4 _).set 5 _)
      · exact (g.block b (M3.out.lt.2 b hb) hne).trans (K3.out b hb hne)
    · go_wp2_with fail
      (first | (refine bodyPost_ret (results_none rfl _ _ _) rfl ?_) | (refine bodyPost_end (results_none rfl _ _ _) rfl ?_))
      have g : Fr (fun b => b = gp) w3 (w3.setCell ⟨gp, 2, none⟩ (.int .i64 1)) := Fr.setCell (S := fun b => b = gp) (p := ⟨gp, 2, none⟩) (Fr.refl _ w3) (Or.inl rfl) _
      refine ⟨⟨_, rfl⟩, M3.out.turn g (fun b e => by rw [e]; exact qp) (fun b e => by rw [e]; exact p0), ?_, fun b hb hne => ?_⟩
      · first | exact B3.out.set 2 _ | (rw [if_pos rfl]; exact B3.out.set 2 _)
      · exact (g.block b (M3.out.lt.2 b hb) hne).trans (K3.out b hb hne)
set_option maxRecDepth 100000 in
set_option maxHeartbeats 4000000 in
theorem lrStep_ok {x : LrM} (h : IsMem Q w w0 w gm dv pv s) (hc : Calm s) {i : Nat} (hi : i ≤ 1000) (fine : Fine i s.dev) (ha : I64 a) (hx : x.Wf) (hb : Blk w gp 147 (x.cells t a)) (qp : Q gp) (p0 : w0.heap.size ≤ gp) :
    Calls Tryz.prog 86 #[.pointer (some ⟨gp, 0, none⟩), .pointer (some ⟨gm, 0, none⟩)] w (StepPost Q w0 w gm gp 147 dv pv (lrS t a x s).2 (lrS t a x s).1.dn ((lrS t a x s).1.cells t a)) := by
  obtain ⟨part, wd, wh, dn⟩ := x
  obtain ⟨hp, hw⟩ := hx
  simp only at hp hw
  have c5 : w.cell? ⟨gp, 5, none⟩ = some (.bool dn) := hb.cell 5
  have c2 : w.cell? ⟨gp, 2, none⟩ = some (.int .i64 part) := hb.cell 2
  cases dn
  · rcases hp with rfl | rfl | rfl | rfl
    · have e1 : lrS t a ⟨0, wd, wh, false⟩ s = (if BM.dirtyB (peekV s a) = true then ⟨1, peekV s a, wh, false⟩ else ⟨0, peekV s a, (s.load t a).clock, true⟩, s.load t a) := rfl
      rw [e1]
      have HL := Lib.hid (lrLoad_ok h hc ha hb qp p0)
      generalize (s.load t a).clock = ck at *
      generalize s.load t a = s1 at *
      generalize BM.dirtyB (peekV s a) = d at *
      generalize peekV s a = v at *
      obtain ⟨X, hX⟩ : ∃ X : LrM, (if d = true then (⟨1, v, wh, false⟩ : LrM) else ⟨0, v, ck, true⟩) = X := ⟨_, rfl⟩
      rw [hX]
      have HX := Lib.hid hX
      clear h hb hc fine e1 hX
      go_enter Tryz.func86, Tryz.ntmps86
      go_wp2_with fail
      refine (lrDone_ok _ gp false c5).mono ?_
      rintro e w' ⟨rfl, rfl⟩
      go_wp2_with fail
      refine HL.out.mono ?_
      rintro e w1 ⟨⟨u, rfl⟩, m1, b1, k1⟩
      have M1 := Lib.hid m1
      have K1 := Lib.hid k1
      clear m1 k1 HL c5 c2
      cases d
      · have e9 : (⟨0, v, ck, true⟩ : LrM) = X := by simpa using HX.out
        simp only [reduceCtorEq, if_false] at b1
        have c5 : w1.cell? ⟨gp, 5, none⟩ = some (.bool true) := b1.cell 5
        have B1 := Lib.hid b1
        clear b1
        go_wp2_with fail
        go_ret
        rw [← e9]
        exact ⟨rfl, M1.out, B1.out, K1.out⟩
      · have e9 : (⟨1, v, wh, false⟩ : LrM) = X := by simpa using HX.out
        simp only [if_pos] at b1
        have c5 : w1.cell? ⟨gp, 5, none⟩ = some (.bool false) := b1.cell 5
        have B1 := Lib.hid b1
        clear b1
        go_wp2_with fail
        go_ret
        rw [← e9]
        exact ⟨rfl, M1.out, B1.out, K1.out⟩
    · have HL := Lib.hid (keep_1 h hc hi fine ha hb qp p0)
      clear h hb hc fine
      go_enter Tryz.func86, Tryz.ntmps86
      go_wp2_with fail
      refine (lrDone_ok _ gp false c5).mono ?_
      rintro e w' ⟨rfl, rfl⟩
      go_wp2_with fail
      refine HL.out.mono ?_
      rintro e w1 ⟨rfl, m1, b1, k1⟩
      have c5 : w1.cell? ⟨gp, 5, none⟩ = some (.bool false) := b1.cell 5
      have M1 := Lib.hid m1
      have B1 := Lib.hid b1
      have K1 := Lib.hid k1
      clear m1 b1 k1 HL c2
      go_wp2_with fail
      go_ret
      exact ⟨rfl, M1.out, B1.out, K1.out⟩
    · have HL := Lib.hid (keep_2 h hc hi fine ha hb qp p0)
      clear h hb hc fine
      go_enter Tryz.func86, Tryz.ntmps86
      go_wp2_with fail
      refine (lrDone_ok _ gp false c5).mono ?_
      rintro e w' ⟨rfl, rfl⟩
      go_wp2_with fail
      refine HL.out.mono ?_
      rintro e w1 ⟨rfl, m1, b1, k1⟩
      have c5 : w1.cell? ⟨gp, 5, none⟩ = some (.bool false) := b1.cell 5
      have M1 := Lib.hid m1
      have B1 := Lib.hid b1
      have K1 := Lib.hid k1
      clear m1 b1 k1 HL c2
      go_wp2_with fail
      go_ret
      exact ⟨rfl, M1.out, B1.out, K1.out⟩
    · have HL := Lib.hid (keep_3 h hc ha hw hb qp p0)
      clear h hb hc fine
      go_enter Tryz.func86, Tryz.ntmps86
      go_wp2_with fail
      refine (lrDone_ok _ gp false c5).mono ?_
      rintro e w' ⟨rfl, rfl⟩
      go_wp2_with fail
      refine HL.out.mono ?_
      rintro e w1 ⟨rfl, m1, b1, k1⟩
      have c5 : w1.cell? ⟨gp, 5, none⟩ = some (.bool false) := b1.cell 5
      have d2 : w1.cell? ⟨gp, 2, none⟩ = some (.int .i64 3) := b1.cell 2
      have z2 : w1.frozen? ⟨gp, 2, none⟩ = false := b1.frozen 2
      have M1 := Lib.hid m1
      have B1 := Lib.hid b1
      have K1 := Lib.hid k1
      clear m1 b1 k1 HL c2
      go_wp2_with fail
      go_ret
      have f : Fr (fun b => b = gp) w1 (w1.setCell ⟨gp, 2, none⟩ (.int .i64 0)) := Fr.setCell (S := fun b => b = gp) (p := ⟨gp, 2, none⟩) (Fr.refl _ w1) (Or.inl rfl) _
      exact ⟨rfl, M1.out.turn f (fun b e => by rw [e]; exact qp) (fun b e => by rw [e]; exact p0), B1.out.set 2 _, fun b hb hne => (f.block b (M1.out.lt.2 b hb) hne).trans (K1.out b hb hne)⟩
  · have H := Lib.hid h
    have HB := Lib.hid hb
    clear h hb hc fine
    go_enter Tryz.func86, Tryz.ntmps86
    go_wp2_with fail
    refine (lrDone_ok _ gp true c5).mono ?_
    rintro e w' ⟨rfl, rfl⟩
    go_wp2_with fail
    go_ret
    exact ⟨rfl, H.out, HB.out, fun _ _ _ => rfl⟩
end
section
variable {Q : Nat → Prop} {w0 w : World} {gm gp : Nat} {dv pv : Value} {s : MSt} {t a wd wh old wr : Int} {put : Bool}
set_option maxRecDepth 100000 in
set_option maxHeartbeats 4000000 in
theorem lsSwap_ok (h : IsMem Q w w0 w gm dv pv s) (hc : Calm s) (ha : I64 a) (hw : W64 wd) (hb : Blk w gp 156 (lkC t a 0 wd wh false [.int .u64 old, .bool put, .int .i64 wr])) (qp : Q gp) (p0 : w0.heap.size ≤ gp) :
    Calls Tryz.prog 121 #[.pointer (some ⟨gp, 0, none⟩), .pointer (some ⟨gm, 0, none⟩)] w fun e w' => (∃ u, e = .returned u) ∧ IsMem Q w' w0 w' gm dv pv (s.swap t a old wd) ∧ Blk w' gp 156 (if swapB s a old = true then lkC t a 1 wd (s.swap t a old wd).clock false [.int .u64 old, .bool true, .int .i64 (writesV (s.swap t a old wd).dev a)] else lkC t a 0 wd wh true [.int .u64 old, .bool false, .int .i64 wr]) ∧ (∀ b, Q b → b ≠ gp → w'.heap[b]? = w.heap[b]?) := by
  have HK : Hid (∀ W s', IsMem Q w w0 W gm dv pv s' → Blk W gp 156 (lkC t a 0 wd wh false [.int .u64 old, .bool put, .int .i64 wr])) := Lib.hid (fun W s' m => (m.keptQ gp qp).trans hb)
  have HP : Hid (∀ W s', IsMem Q w w0 W gm dv pv s' → W.cell? ⟨gp, 0, none⟩ = some (.int .i64 t) ∧ W.cell? ⟨gp, 1, none⟩ = some (.int .i64 a) ∧ W.cell? ⟨gp, 6, none⟩ = some (.int .u64 old) ∧ W.cell? ⟨gp, 3, none⟩ = some (.int .u64 wd)) := Lib.hid (fun W s' m => ⟨(HK.out W s' m).cell 0, (HK.out W s' m).cell 1, (HK.out W s' m).cell 6, (HK.out W s' m).cell 3⟩)
  have HP2 : Hid (∀ W s' u, IsMem Q w w0 W gm dv pv s' → (W.setCell ⟨gp, 7, none⟩ u).cell? ⟨gp, 0, none⟩ = some (.int .i64 t) ∧ (W.setCell ⟨gp, 7, none⟩ u).cell? ⟨gp, 1, none⟩ = some (.int .i64 a) ∧ (W.setCell ⟨gp, 7, none⟩ u).cell? ⟨gp, 6, none⟩ = some (.int .u64 old) ∧ (W.setCell ⟨gp, 7, none⟩ u).cell? ⟨gp, 3, none⟩ = some (.int .u64 wd)) := Lib.hid (fun W s' u m => ⟨((HK.out W s' m).set 7 u).cell 0, ((HK.out W s' m).set 7 u).cell 1, ((HK.out W s' m).set 7 u).cell 6, ((HK.out W s' m).set 7 u).cell 3⟩)
  have HL : Hid (∀ W, IsMem Q w w0 W gm dv pv s → Calls Tryz.prog 106 #[.pointer (some ⟨gm, 0, none⟩), .int .i64 t, .int .i64 a, .int .u64 old, .int .u64 wd] W fun e w' => e = .returned (.bool (swapB s a old)) ∧ IsMem Q w w0 w' gm dv pv (s.swap t a old wd)) := Lib.hid (fun W m => memSwap_ok m t a old wd ha.1 ha.2 hw hc)
  have HCk : Hid (∀ W wb, IsMem Q wb w0 W gm dv pv (s.swap t a old wd) → Calls Tryz.prog 103 #[.pointer (some ⟨gm, 0, none⟩)] W fun e w' => e = .returned (.int .i64 (s.swap t a old wd).clock) ∧ W = w') := Lib.hid (fun W wb m => memClock_ok m)
  have HWr : Hid (∀ W wb, IsMem Q wb w0 W gm dv pv (s.swap t a old wd) → Calls Tryz.prog 126 #[.pointer (some ⟨gm, 0, none⟩), .int .i64 a] W fun e w' => e = .returned (.int .i64 (writesV (s.swap t a old wd).dev a)) ∧ Ext W w') := Lib.hid (fun W wb m => memWrites_ok m a ha.2)
  have M := Lib.hid (h.ext ((Ext.refl w).drew))
  generalize writesV (s.swap t a old wd).dev a = wv at *
  generalize (s.swap t a old wd).clock = ck at *
  generalize s.swap t a old wd = s1 at *
  generalize swapB s a old = d at *
  have c0 : w.cell? ⟨gp, 0, none⟩ = some (.int .i64 t) := hb.cell 0
  have c1 : w.cell? ⟨gp, 1, none⟩ = some (.int .i64 a) := hb.cell 1
  have c6 : w.cell? ⟨gp, 6, none⟩ = some (.int .u64 old) := hb.cell 6
  have c3 : w.cell? ⟨gp, 3, none⟩ = some (.int .u64 wd) := hb.cell 3
  clear h hb hc ha hw
  go_enter Tryz.func121, Tryz.ntmps121
  go_wp2_with fail
  go_region_held3 (fun W => W.cell? ⟨gp, 0, none⟩ = some (.int .i64 t) ∧ W.cell? ⟨gp, 1, none⟩ = some (.int .i64 a) ∧ W.cell? ⟨gp, 6, none⟩ = some (.int .u64 old) ∧ W.cell? ⟨gp, 3, none⟩ = some (.int .u64 wd)) (first | exact HP.out _ _ M.out | exact HP2.out _ _ _ M.out | go_keep) (first
    | (go_at_call 106; refine (HL.out _ M.out).mono ?_; rintro e w1 ⟨rfl, m1⟩; replace M := Lib.hid m1; have y7 : w1.cell? ⟨gp, 7, none⟩ = some (.bool put) := (HK.out _ _ m1).cell 7; have z7 : w1.frozen? ⟨gp, 7, none⟩ = false := (HK.out _ _ m1).frozen 7; clear m1))
  all_goals
    have f : Fr (fun b => b = gp) w1 (w1.setCell ⟨gp, 7, none⟩ (.bool d)) := Fr.setCell (S := fun b => b = gp) (p := ⟨gp, 7, none⟩) (Fr.refl _ w1) (Or.inl rfl) _
    have M1 := Lib.hid (M.out.turn f (fun b e => by rw [e]; exact qp) (fun b e => by rw [e]; exact p0))
    have B1 : Hid (Blk (w1.setCell ⟨gp, 7, none⟩ (.bool d)) gp 156 (lkC t a 0 wd wh false [.int .u64 old, .bool d, .int .i64 wr])) := Lib.hid ((HK.out _ _ M.out).set 7 _)
    have K1 : Hid (∀ b, Q b → b ≠ gp → (w1.setCell ⟨gp, 7, none⟩ (.bool d)).heap[b]? = w.heap[b]?) := Lib.hid (fun b hb hne => (f.block b (M.out.lt.2 b hb) hne).trans (M.out.keptQ b hb))
    have d7 : (w1.setCell ⟨gp, 7, none⟩ (.bool d)).cell? ⟨gp, 7, none⟩ = some (.bool d) := B1.out.cell 7
    have y4 : (w1.setCell ⟨gp, 7, none⟩ (.bool d)).cell? ⟨gp, 4, none⟩ = some (.int .i64 wh) := B1.out.cell 4
    have z4 : (w1.setCell ⟨gp, 7, none⟩ (.bool d)).frozen? ⟨gp, 4, none⟩ = false := B1.out.frozen 4
    have y5 : (w1.setCell ⟨gp, 7, none⟩ (.bool d)).cell? ⟨gp, 5, none⟩ = some (.bool false) := B1.out.cell 5
    have z5 : (w1.setCell ⟨gp, 7, none⟩ (.bool d)).frozen? ⟨gp, 5, none⟩ = false := B1.out.frozen 5
    clear f y7 z7 c0 c1 c6 c3 HP HP2 HK HL M
    generalize (w1.setCell ⟨gp, 7, none⟩ (.bool d)) = w2 at *
    cases d
    · go_wp2_with fail
      (first | (refine bodyPost_ret (results_none rfl _ _ _) rfl ?_) | (refine bodyPost_end (results_none rfl _ _ _) rfl ?_))
      have g : Fr (fun b => b = gp) w2 (w2.setCell ⟨gp, 5, none⟩ (.bool true)) := Fr.setCell (S := fun b => b = gp) (p := ⟨gp, 5, none⟩) (Fr.refl _ w2) (Or.inl rfl) _
      refine ⟨⟨_, rfl⟩, M1.out.turn g (fun b e => by rw [e]; exact qp) (fun b e => by rw [e]; exact p0), ?_, fun b hb hne => ?_⟩
      · first | exact B1.out.set 5 _ | (rw [if_neg (by decide)]; exact B1.out.set 5 _)
      · exact (g.block b (M1.out.lt.2 b hb) hne).trans (K1.out b hb hne)
    · go_wp2_with fail
      refine (HCk.out _ _ M1.out).mono ?_
      rintro e w3 ⟨rfl, rfl⟩
      have g : Fr (fun b => b = gp) w2 (w2.setCell ⟨gp, 4, none⟩ (.int .i64 ck)) := Fr.setCell (S := fun b => b = gp) (p := ⟨gp, 4, none⟩) (Fr.refl _ w2) (Or.inl rfl) _
      have M2 := Lib.hid (M1.out.turn g (fun b e => by rw [e]; exact qp) (fun b e => by rw [e]; exact p0))
      have B2 : Hid (Blk (w2.setCell ⟨gp, 4, none⟩ (.int .i64 ck)) gp 156 (lkC t a 0 wd ck false [.int .u64 old, .bool true, .int .i64 wr])) := Lib.hid (B1.out.set 4 _)
      have K2 : Hid (∀ b, Q b → b ≠ gp → (w2.setCell ⟨gp, 4, none⟩ (.int .i64 ck)).heap[b]? = w.heap[b]?) := Lib.hid (fun b hb hne => (g.block b (M1.out.lt.2 b hb) hne).trans (K1.out b hb hne))
      have c1 : (w2.setCell ⟨gp, 4, none⟩ (.int .i64 ck)).cell? ⟨gp, 1, none⟩ = some (.int .i64 a) := B2.out.cell 1
      clear g d7 y5 z5
      go_wp2_with fail
      refine (HWr.out _ _ M2.out).mono ?_
      rintro e w4 ⟨rfl, x4⟩
      have M4 := Lib.hid (M2.out.ext x4)
      have B4 := Lib.hid (B2.out.ext x4)
      have K4 : Hid (∀ b, Q b → b ≠ gp → w4.heap[b]? = w.heap[b]?) := Lib.hid (fun b hb hne => (x4.block b (M2.out.lt.2 b hb)).trans (K2.out b hb hne))
      have y8 : w4.cell? ⟨gp, 8, none⟩ = some (.int .i64 wr) := B4.out.cell 8
      have z8 : w4.frozen? ⟨gp, 8, none⟩ = false := B4.out.frozen 8
      have y2 : w4.cell? ⟨gp, 2, none⟩ = some (.int .i64 0) := B4.out.cell 2
      have z2 : w4.frozen? ⟨gp, 2, none⟩ = false := B4.out.frozen 2
      clear x4 M2 B2 K2 c1 y4 z4 M1 B1 K1
      go_wp2_with fail
      (first | (refine bodyPost_ret (results_none rfl _ _ _) rfl ?_) | (refine bodyPost_end (results_none rfl _ _ _) rfl ?_))
      have g : Fr (fun b => b = gp) w4 ((w4.setCell ⟨gp, 8, none⟩ (.int .i64 wv)).setCell ⟨gp, 2, none⟩ (.int .i64 1)) := Fr.setCell (S := fun b => b = gp) (p := ⟨gp, 2, none⟩) (Fr.setCell (S := fun b => b = gp) (p := ⟨gp, 8, none⟩) (Fr.refl _ w4) (Or.inl rfl) _) (Or.inl rfl) _
      refine ⟨⟨_, rfl⟩, M4.out.turn g (fun b e => by rw [e]; exact qp) (fun b e => by rw [e]; exact p0), ?_, fun b hb hne => ?_⟩
      · first | exact (B4.out.set 8 _).set 2 _ | (rw [if_pos rfl]; exact (B4.out.set 8 _).set 2 _)
      · exact (g.block b (M4.out.lt.2 b hb) hne).trans (K4.out b hb hne)
set_option maxRecDepth 100000 in
set_option maxHeartbeats 4000000 in
theorem lsStep_ok {x : LsM} (h : IsMem Q w w0 w gm dv pv s) (hc : Calm s) {i : Nat} (hi : i ≤ 1000) (fine : Fine i s.dev) (ha : I64 a) (hp : x.part = 0 ∨ x.part = 1 ∨ x.part = 2 ∨ x.part = 3) (hw : W64 wd) (hb : Blk w gp 156 (x.cells t a wd old)) (qp : Q gp) (p0 : w0.heap.size ≤ gp) :
    Calls Tryz.prog 108 #[.pointer (some ⟨gp, 0, none⟩), .pointer (some ⟨gm, 0, none⟩)] w (StepPost Q w0 w gm gp 156 dv pv (lsS t a wd old x s).2 (lsS t a wd old x s).1.dn ((lsS t a wd old x s).1.cells t a wd old)) := by
  obtain ⟨part, wh, dn, put, wr⟩ := x
  simp only at hp
  have c5 : w.cell? ⟨gp, 5, none⟩ = some (.bool dn) := hb.cell 5
  have c2 : w.cell? ⟨gp, 2, none⟩ = some (.int .i64 part) := hb.cell 2
  cases dn
  · rcases hp with rfl | rfl | rfl | rfl
    · have e1 : lsS t a wd old ⟨0, wh, false, put, wr⟩ s = (if swapB s a old = true then ⟨1, (s.swap t a old wd).clock, false, true, writesV (s.swap t a old wd).dev a⟩ else ⟨0, wh, true, false, wr⟩, s.swap t a old wd) := rfl
      rw [e1]
      have HL := Lib.hid (lsSwap_ok h hc ha hw hb qp p0)
      generalize writesV (s.swap t a old wd).dev a = wv at *
      generalize (s.swap t a old wd).clock = ck at *
      generalize s.swap t a old wd = s1 at *
      generalize swapB s a old = d at *
      obtain ⟨X, hX⟩ : ∃ X : LsM, (if d = true then (⟨1, ck, false, true, wv⟩ : LsM) else ⟨0, wh, true, false, wr⟩) = X := ⟨_, rfl⟩
      rw [hX]
      have HX := Lib.hid hX
      clear h hb hc fine e1 hX
      go_enter Tryz.func108, Tryz.ntmps108
      go_wp2_with fail
      refine (lsDone_ok _ gp false c5).mono ?_
      rintro e w' ⟨rfl, rfl⟩
      go_wp2_with fail
      refine HL.out.mono ?_
      rintro e w1 ⟨⟨u, rfl⟩, m1, b1, k1⟩
      have M1 := Lib.hid m1
      have K1 := Lib.hid k1
      clear m1 k1 HL c5 c2
      cases d
      · have e9 : (⟨0, wh, true, false, wr⟩ : LsM) = X := by simpa using HX.out
        simp only [reduceCtorEq, if_false] at b1
        have c5 : w1.cell? ⟨gp, 5, none⟩ = some (.bool true) := b1.cell 5
        have B1 := Lib.hid b1
        clear b1
        go_wp2_with fail
        go_ret
        rw [← e9]
        exact ⟨rfl, M1.out, B1.out, K1.out⟩
      · have e9 : (⟨1, ck, false, true, wv⟩ : LsM) = X := by simpa using HX.out
        simp only [if_pos] at b1
        have c5 : w1.cell? ⟨gp, 5, none⟩ = some (.bool false) := b1.cell 5
        have B1 := Lib.hid b1
        clear b1
        go_wp2_with fail
        go_ret
        rw [← e9]
        exact ⟨rfl, M1.out, B1.out, K1.out⟩
    · have HL := Lib.hid (keep_1 h hc hi fine ha hb qp p0)
      clear h hb hc fine
      go_enter Tryz.func108, Tryz.ntmps108
      go_wp2_with fail
      refine (lsDone_ok _ gp false c5).mono ?_
      rintro e w' ⟨rfl, rfl⟩
      go_wp2_with fail
      refine HL.out.mono ?_
      rintro e w1 ⟨rfl, m1, b1, k1⟩
      have c5 : w1.cell? ⟨gp, 5, none⟩ = some (.bool false) := b1.cell 5
      have z5 : w1.frozen? ⟨gp, 5, none⟩ = false := b1.frozen 5
      have M1 := Lib.hid m1
      have B1 := Lib.hid b1
      have K1 := Lib.hid k1
      clear m1 b1 k1 HL c2
      go_wp2_with fail
      go_ret
      have f : Fr (fun b => b = gp) w1 (w1.setCell ⟨gp, 5, none⟩ (.bool false)) := Fr.setCell (S := fun b => b = gp) (p := ⟨gp, 5, none⟩) (Fr.refl _ w1) (Or.inl rfl) _
      exact ⟨rfl, M1.out.turn f (fun b e => by rw [e]; exact qp) (fun b e => by rw [e]; exact p0), B1.out.set 5 _, fun b hb hne => (f.block b (M1.out.lt.2 b hb) hne).trans (K1.out b hb hne)⟩
    · have HL := Lib.hid (keep_2 h hc hi fine ha hb qp p0)
      clear h hb hc fine
      go_enter Tryz.func108, Tryz.ntmps108
      go_wp2_with fail
      refine (lsDone_ok _ gp false c5).mono ?_
      rintro e w' ⟨rfl, rfl⟩
      go_wp2_with fail
      refine HL.out.mono ?_
      rintro e w1 ⟨rfl, m1, b1, k1⟩
      have c5 : w1.cell? ⟨gp, 5, none⟩ = some (.bool false) := b1.cell 5
      have z5 : w1.frozen? ⟨gp, 5, none⟩ = false := b1.frozen 5
      have M1 := Lib.hid m1
      have B1 := Lib.hid b1
      have K1 := Lib.hid k1
      clear m1 b1 k1 HL c2
      go_wp2_with fail
      go_ret
      have f : Fr (fun b => b = gp) w1 (w1.setCell ⟨gp, 5, none⟩ (.bool false)) := Fr.setCell (S := fun b => b = gp) (p := ⟨gp, 5, none⟩) (Fr.refl _ w1) (Or.inl rfl) _
      exact ⟨rfl, M1.out.turn f (fun b e => by rw [e]; exact qp) (fun b e => by rw [e]; exact p0), B1.out.set 5 _, fun b hb hne => (f.block b (M1.out.lt.2 b hb) hne).trans (K1.out b hb hne)⟩
    · have HL := Lib.hid (keep_3 h hc ha hw hb qp p0)
      clear h hb hc fine
      go_enter Tryz.func108, Tryz.ntmps108
      go_wp2_with fail
      refine (lsDone_ok _ gp false c5).mono ?_
      rintro e w' ⟨rfl, rfl⟩
      go_wp2_with fail
      refine HL.out.mono ?_
      rintro e w1 ⟨rfl, m1, b1, k1⟩
      have c5 : w1.cell? ⟨gp, 5, none⟩ = some (.bool false) := b1.cell 5
      have z5 : w1.frozen? ⟨gp, 5, none⟩ = false := b1.frozen 5
      have M1 := Lib.hid m1
      have B1 := Lib.hid b1
      have K1 := Lib.hid k1
      clear m1 b1 k1 HL c2
      go_wp2_with fail
      go_ret
      have f : Fr (fun b => b = gp) w1 (w1.setCell ⟨gp, 5, none⟩ (.bool true)) := Fr.setCell (S := fun b => b = gp) (p := ⟨gp, 5, none⟩) (Fr.refl _ w1) (Or.inl rfl) _
      exact ⟨rfl, M1.out.turn f (fun b e => by rw [e]; exact qp) (fun b e => by rw [e]; exact p0), B1.out.set 5 _, fun b hb hne => (f.block b (M1.out.lt.2 b hb) hne).trans (K1.out b hb hne)⟩
  · have H := Lib.hid h
    have HB := Lib.hid hb
    clear h hb hc fine
    go_enter Tryz.func108, Tryz.ntmps108
    go_wp2_with fail
    refine (lsDone_ok _ gp true c5).mono ?_
    rintro e w' ⟨rfl, rfl⟩
    go_wp2_with fail
    go_ret
    exact ⟨rfl, H.out, HB.out, fun _ _ _ => rfl⟩
end
theorem newRead_ok (w : World) (t a : Int) : Calls Tryz.prog 73 #[.int .i64 t, .int .i64 a] w fun e w' => ∃ g, e = .returned (.pointer (some ⟨g, 0, none⟩)) ∧ w.heap.size ≤ g ∧ Blk w' g 147 (LrM.cells ⟨0, 0, 0, false⟩ t a) ∧ Ext w w' := by
  go_enter Tryz.func73, Tryz.ntmps73
  go_wp2_with fail
  go_ret
  exact ⟨w.heap.size, rfl, Nat.le_refl _, Blk.new w _ _, (Ext.refl w).alloc _⟩
theorem newSet_ok (w : World) (t a old wd : Int) (ho : W64 old) (hw : W64 wd) : Calls Tryz.prog 97 #[.int .i64 t, .int .i64 a, .int .u64 old, .int .u64 wd] w fun e w' => ∃ g, e = .returned (.pointer (some ⟨g, 0, none⟩)) ∧ w.heap.size ≤ g ∧ Blk w' g 156 (LsM.cells ⟨0, 0, false, false, 0⟩ t a (soN wd) (clN old)) ∧ Ext w w' := by
  have HS : Hid (∀ W, Calls Tryz.prog 22 #[.int .u64 wd] W fun e w' => e = .returned (.int .u64 (soN wd)) ∧ Ext W w') := Lib.hid (fun W => soil_any wd hw.1 hw.2 W)
  have HC : Hid (∀ W, Calls Tryz.prog 107 #[.int .u64 old] W fun e w' => e = .returned (.int .u64 (clN old)) ∧ Ext W w') := Lib.hid (fun W => clean_any old ho.1 ho.2 W)
  clear ho hw
  generalize soN wd = z at *
  generalize clN old = y at *
  go_enter Tryz.func97, Tryz.ntmps97
  go_wp2_with fail
  refine (HS.out _).mono ?_
  rintro e w1 ⟨rfl, x1⟩
  go_wp2_with fail
  refine (HC.out _).mono ?_
  rintro e w2 ⟨rfl, x2⟩
  have X2 := Lib.hid (x1.trans x2)
  clear x1 x2
  go_wp2_with fail
  go_ret
  exact ⟨w2.heap.size, rfl, X2.out.size, Blk.new w2 _ _, X2.out.alloc _⟩
theorem lrWord_ok (w : World) (g : Nat) (wd : Int) (d : Bool) (c3 : w.cell? ⟨g, 3, none⟩ = some (.int .u64 wd)) (c5 : w.cell? ⟨g, 5, none⟩ = some (.bool d)) :
    Calls Tryz.prog 87 #[.pointer (some ⟨g, 0, none⟩)] w fun e w' => e = .returned (.int .u64 (if d = true then wd else 0)) ∧ w = w' := by
  cases d
  · go_enter Tryz.func87, Tryz.ntmps87
    go_wp2_with fail
    go_ret
    exact ⟨rfl, rfl⟩
  · go_enter Tryz.func87, Tryz.ntmps87
    go_wp2_with fail
    go_ret
    exact ⟨rfl, rfl⟩
theorem lrWhen_ok (w : World) (g : Nat) (wh : Int) (d : Bool) (c4 : w.cell? ⟨g, 4, none⟩ = some (.int .i64 wh)) (c5 : w.cell? ⟨g, 5, none⟩ = some (.bool d)) :
    Calls Tryz.prog 88 #[.pointer (some ⟨g, 0, none⟩)] w fun e w' => e = .returned (.int .i64 (if d = true then wh else -1)) ∧ w = w' := by
  cases d
  · go_enter Tryz.func88, Tryz.ntmps88
    go_wp2_with fail
    go_ret
    exact ⟨rfl, rfl⟩
  · go_enter Tryz.func88, Tryz.ntmps88
    go_wp2_with fail
    go_ret
    exact ⟨rfl, rfl⟩
theorem lsPut_ok (w : World) (g : Nat) (p : Bool) (c7 : w.cell? ⟨g, 7, none⟩ = some (.bool p)) :
    Calls Tryz.prog 109 #[.pointer (some ⟨g, 0, none⟩)] w fun e w' => e = .returned (.bool p) ∧ w = w' := by
  go_enter Tryz.func109, Tryz.ntmps109
  go_wp2_with fail
  go_ret
  exact ⟨rfl, rfl⟩
theorem lsWhen_ok (w : World) (g : Nat) (wh : Int) (p : Bool) (c4 : w.cell? ⟨g, 4, none⟩ = some (.int .i64 wh)) (c7 : w.cell? ⟨g, 7, none⟩ = some (.bool p)) :
    Calls Tryz.prog 110 #[.pointer (some ⟨g, 0, none⟩)] w fun e w' => e = .returned (.int .i64 (if p = true then wh else -1)) ∧ w = w' := by
  have HP := Lib.hid (lsPut_ok w g p c7)
  cases p
  · go_enter Tryz.func110, Tryz.ntmps110
    go_wp2_with fail
    refine HP.out.mono ?_
    rintro e w' ⟨rfl, rfl⟩
    go_wp2_with fail
    go_ret
    exact ⟨rfl, rfl⟩
  · go_enter Tryz.func110, Tryz.ntmps110
    go_wp2_with fail
    refine HP.out.mono ?_
    rintro e w' ⟨rfl, rfl⟩
    go_wp2_with fail
    go_ret
    exact ⟨rfl, rfl⟩
end Go.Proofs.YtolengkegjipaaaGreat


/- The document's Read and Set, each step. Conditions: those that each theorem names. -/
namespace Go.Proofs.YtolengkegjipaaaGreat
open Go.ChangeShapes Go.WideShapes Go.ChangeAt Go.RowKit
set_option linter.unusedVariables false
theorem swap_n (s : MSt) (t a z x : Int) : (s.swap t a z x).dev.n = s.dev.n := by
  have hp : (s.put a x).dev.n = s.dev.n := by
    unfold MSt.put
    split
    · exact (act_n s.dev 5 0 0 a x).1
    · rfl
  unfold MSt.swap; split
  · split
    · exact hp
    · rfl
  · rfl
section
variable {B : Nat} {w : World} {g : Nat} {R : RefB} {rv : Value} {gq : Nat} {st : MSt} {t a got wd wh : Int}
end
section
variable {B : Nat} {w : World} {g : Nat} {R : RefB} {rv : Value} {gq : Nat} {st : MSt} {t a old nw wh wr : Int} {put : Bool}
end
end Go.Proofs.YtolengkegjipaaaGreat

