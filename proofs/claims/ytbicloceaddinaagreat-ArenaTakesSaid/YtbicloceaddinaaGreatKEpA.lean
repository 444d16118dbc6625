/- Package epoch: what its machines do: the epoch is loaded, an announcement stored; by which epoch a thread is in. Conditions: those that each theorem names. -/
import Derived.Test.YtbicloceaddinaaGreatKFreeB
namespace Go.Proofs.YtbicloceaddinaaGreat
open Go.ChangeShapes Go.WideShapes Go.ChangeAt Go.RowKit
set_option linter.unusedVariables false
/-- The word of a thread's announcement. -/
def ann (F : Nat → Int) (n : Int) : Int := wordAt (F 4) (F 23) (F 24) (F 25) n 0
theorem ann_rng {F : Nat → Int} (ok : Okay F) (n : Int) : -9223372036854775808 ≤ ann F n ∧ ann F n < 9223372036854775808 := by
  have h : -2000000000 ≤ wordAt (F 4) (F 23) (F 24) (F 25) n 0 ∧ wordAt (F 4) (F 23) (F 24) (F 25) n 0 ≤ 2000000000 := wordAt_rng ok.v0 ok.v1 ok.r23.a ok.r23.d ok.r23.m
  unfold ann
  omega
theorem ann_ok {F : Nat → Int} (ok : Okay F) (gl : Nat) (n : Int) (w : World) (hl : Blk w gl 173 (cellsF F)) :
    Calls Tryz.prog 242 #[.pointer (some ⟨gl, 0, none⟩), .int .i64 n] w fun e w' => e = .returned (.int .i64 (ann F n)) ∧ Ext w w' :=
  tAnnounce_any (some ⟨gl, 0, none⟩) (cellsF F) (F 4) (F 23) (F 24) (F 25) n w (Or.inl ⟨gl, rfl, hl⟩) (cellsF_at F 4 (by omega)) ok.v0 ok.v1 ok.r23.a ok.r23.d ok.r23.m (cellsF_at F 23 (by omega)) (cellsF_at F 24 (by omega)) (cellsF_at F 25 (by omega))
/-- The epoch behind one. -/
def next64 (x : Int) : Int := (x + 1) % 18446744073709551616
theorem next64_rng (x : Int) : W64 (next64 x) := by unfold next64 W64; omega
theorem u64w1 (x : Int) (h : W64 x) : IntKind.u64.wrap (x + 1) = next64 x := by
  unfold next64
  have := h.1
  unfold IntKind.wrap
  simp [IntKind.signed, IntKind.bits]
theorem enext_ok (w : World) (g : Nat) (x : Int) (hx : W64 x) (c4 : w.cell? ⟨g, 4, none⟩ = some (.int .u64 x)) :
    Calls Tryz.prog 243 #[.pointer (some ⟨g, 0, none⟩)] w fun e w' => e = .returned (.int .u64 (next64 x)) ∧ w = w' := by
  have hw := u64w1 x hx
  generalize next64 x = y at *
  clear hx
  go_enter Tryz.func243, Tryz.ntmps243
  go_wp2_with fail
  go_ret
  exact ⟨by first | rfl | rw [hw], rfl⟩
theorem tEpoch_m1 {F : Nat → Int} (gl : Nat) (w : World) (hl : Blk w gl 173 (cellsF F)) (hF : F 21 = -1) :
    Calls Tryz.prog 132 #[.pointer (some ⟨gl, 0, none⟩)] w fun e w' => e = .returned (.int .i64 (-1)) ∧ Ext w w' :=
  tEpoch_any (some ⟨gl, 0, none⟩) (cellsF F) (-1) w (Or.inl ⟨gl, rfl, hl⟩) (by rw [cellsF_at F 21 (by decide), hF])
section
variable {Q : Nat → Prop} {w0 w : World} {gm gp gl : Nat} {T : TypeId} {dv pv : Value} {s : MSt} {F : Nat → Int} {t ep : Int} {dn ld : Bool} {cs : List Value}
set_option maxRecDepth 100000 in
set_option maxHeartbeats 4000000 in
theorem eload_ok (h : IsMem Q w w0 w gm dv pv s) (hc : Calm s) (hb : Blk w gp T (.pointer (some ⟨gl, 0, none⟩) :: .int .i64 t :: .bool dn :: .bool ld :: .int .u64 ep :: cs)) (hl : Blk w gl 173 (cellsF F)) (hF : F 21 = -1) (qp : Q gp) (ql : Q gl) (p0 : w0.heap.size ≤ gp) :
    Calls Tryz.prog 226 #[.pointer (some ⟨gp, 0, none⟩), .pointer (some ⟨gm, 0, none⟩)] w fun e w' => (∃ u, e = .returned u) ∧ IsMem Q w' w0 w' gm dv pv (s.load t (-1)) ∧ Blk w' gp T (.pointer (some ⟨gl, 0, none⟩) :: .int .i64 t :: .bool dn :: .bool true :: .int .u64 (peekV s (-1)) :: cs) ∧ (∀ b, Q b → b ≠ gp → w'.heap[b]? = w.heap[b]?) := by
  have HK : Hid (∀ W s', IsMem Q w w0 W gm dv pv s' → Blk W gp T (.pointer (some ⟨gl, 0, none⟩) :: .int .i64 t :: .bool dn :: .bool ld :: .int .u64 ep :: cs) ∧ Blk W gl 173 (cellsF F)) := Lib.hid (fun W s' m => ⟨(m.keptQ gp qp).trans hb, (m.keptQ gl ql).trans hl⟩)
  have HP : Hid (∀ W s', IsMem Q w w0 W gm dv pv s' → W.cell? ⟨gp, 0, none⟩ = some (.pointer (some ⟨gl, 0, none⟩)) ∧ W.cell? ⟨gp, 1, none⟩ = some (.int .i64 t)) := Lib.hid (fun W s' m => ⟨((HK.out W s' m).1).cell 0, ((HK.out W s' m).1).cell 1⟩)
  have HP2 : Hid (∀ W s' u, IsMem Q w w0 W gm dv pv s' → (W.setCell ⟨gp, 4, none⟩ u).cell? ⟨gp, 0, none⟩ = some (.pointer (some ⟨gl, 0, none⟩)) ∧ (W.setCell ⟨gp, 4, none⟩ u).cell? ⟨gp, 1, none⟩ = some (.int .i64 t)) := Lib.hid (fun W s' u m => ⟨(((HK.out W s' m).1).set 4 u).cell 0, (((HK.out W s' m).1).set 4 u).cell 1⟩)
  have HEp : Hid (∀ W s', IsMem Q w w0 W gm dv pv s' → Calls Tryz.prog 132 #[.pointer (some ⟨gl, 0, none⟩)] W fun e w' => e = .returned (.int .i64 (-1)) ∧ Ext W w') := Lib.hid (fun W s' m => tEpoch_m1 gl W (HK.out W s' m).2 hF)
  have HL : Hid (∀ W, IsMem Q w w0 W gm dv pv s → Calls Tryz.prog 69 #[.pointer (some ⟨gm, 0, none⟩), .int .i64 t, .int .i64 (-1)] W fun e w' => e = .returned (.int .u64 (peekV s (-1))) ∧ IsMem Q w w0 w' gm dv pv (s.load t (-1))) := Lib.hid (fun W m => memLoad_ok m t (-1) (by decide) (by decide) hc)
  have M := Lib.hid (h.ext ((Ext.refl w).drew))
  generalize peekV s (-1) = v at *
  generalize s.load t (-1) = s1 at *
  have c0 : w.cell? ⟨gp, 0, none⟩ = some (.pointer (some ⟨gl, 0, none⟩)) := hb.cell 0
  clear h hb hl hF hc
  go_enter Tryz.func226, Tryz.ntmps226
  go_wp2_with fail
  go_region_held3 (fun W => W.cell? ⟨gp, 0, none⟩ = some (.pointer (some ⟨gl, 0, none⟩)) ∧ W.cell? ⟨gp, 1, none⟩ = some (.int .i64 t)) (first | exact HP.out _ _ M.out | exact HP2.out _ _ _ M.out | go_keep) (first
    | (go_at_call 132; refine (HEp.out _ _ M.out).mono ?_; rintro e w1 ⟨rfl, x1⟩; replace M := Lib.hid (M.out.ext x1); clear x1)
    | (go_at_call 69; refine (HL.out _ M.out).mono ?_; rintro e w1 ⟨rfl, m1⟩; replace M := Lib.hid m1; have y4 : w1.cell? ⟨gp, 4, none⟩ = some (.int .u64 ep) := ((HK.out _ _ m1).1).cell 4; have z4 : w1.frozen? ⟨gp, 4, none⟩ = false := ((HK.out _ _ m1).1).frozen 4; clear m1))
  all_goals
    have y3 : w1.cell? ⟨gp, 3, none⟩ = some (.bool ld) := ((HK.out _ _ M.out).1).cell 3
    have z3 : w1.frozen? ⟨gp, 3, none⟩ = false := ((HK.out _ _ M.out).1).frozen 3
    go_wp2_with fail
    have f : Fr (fun b => b = gp) w1 ((w1.setCell ⟨gp, 4, none⟩ (.int .u64 v)).setCell ⟨gp, 3, none⟩ (.bool true)) := Fr.setCell (S := fun b => b = gp) (p := ⟨gp, 3, none⟩) (Fr.setCell (S := fun b => b = gp) (p := ⟨gp, 4, none⟩) (Fr.refl _ w1) (Or.inl rfl) _) (Or.inl rfl) _
    refine bodyPost_end (results_none rfl _ _ _) rfl ?_
    refine ⟨⟨_, rfl⟩, M.out.turn f (fun b e => by rw [e]; exact qp) (fun b e => by rw [e]; exact p0), (((HK.out _ _ M.out).1).set 4 _).set 3 _, fun b hb hne => ?_⟩
    exact (f.block b (M.out.lt.2 b hb) hne).trans (M.out.keptQ b hb)
end
end Go.Proofs.YtbicloceaddinaaGreat


/- Package epoch: machines that are made; the steps of Enter and Leave; what an Advance asks and moves. Conditions: those that each theorem names. -/
namespace Go.Proofs.YtbicloceaddinaaGreat
open Go.ChangeShapes Go.WideShapes Go.ChangeAt Go.RowKit
set_option linter.unusedVariables false
/-- The cells of an Advance. -/
def acells (gl : Nat) (t : Int) (dn ld : Bool) (ep asked : Int) (mv : Bool) : List Value := [.pointer (some ⟨gl, 0, none⟩), .int .i64 t, .bool dn, .bool ld, .int .u64 ep, .int .i64 asked, .bool mv]
def NewE (T : TypeId) (w : World) (cs : List Value) (e : Ending) (w' : World) : Prop := ∃ g, e = .returned (.pointer (some ⟨g, 0, none⟩)) ∧ w.heap.size ≤ g ∧ Blk w' g T cs ∧ Ext w w'
theorem newAdvance_ok (w : World) (gl : Nat) (t : Int) : Calls Tryz.prog 159 #[.pointer (some ⟨gl, 0, none⟩), .int .i64 t] w (NewE 250 w (acells gl t false false 0 0 false)) := by
  go_enter Tryz.func159, Tryz.ntmps159
  go_wp2_with fail
  go_ret
  exact ⟨w.heap.size, rfl, Nat.le_refl _, Blk.new w _ _, (Ext.refl w).alloc _⟩
theorem doneAdvance_ok (w : World) (g : Nat) (dn : Bool) (c2 : w.cell? ⟨g, 2, none⟩ = some (.bool dn)) :
    Calls Tryz.prog 225 #[.pointer (some ⟨g, 0, none⟩)] w fun e w' => e = .returned (.bool dn) ∧ w = w' := by
  go_enter Tryz.func225, Tryz.ntmps225
  go_wp2_with fail
  go_ret
  exact ⟨rfl, rfl⟩
section
variable {Q : Nat → Prop} {w0 w : World} {gm gp gl : Nat} {dv pv : Value} {s : MSt} {F : Nat → Int} {t ep asked : Int} {dn ld mv : Bool}
/-- What an Enter's step leaves. -/
def enterS (F : Nat → Int) (t : Int) (x : Bool × Bool × Int) (s : MSt) : (Bool × Bool × Int) × MSt :=
  if x.1 = true then (x, s) else if x.2.1 = false then ((false, true, peekV s (-1)), s.load t (-1)) else ((true, x.2.1, x.2.2), s.store t (ann F t) (next64 x.2.2))
end
end Go.Proofs.YtbicloceaddinaaGreat


/- Package epoch: what an Advance asks, and moves. Conditions: those that each theorem names. -/
namespace Go.Proofs.YtbicloceaddinaaGreat
open Go.ChangeShapes Go.WideShapes Go.ChangeAt Go.RowKit
set_option linter.unusedVariables false
/-- Who is in by another epoch holds an Advance up. -/
def holds (ep v : Int) : Bool := (v != 0) && (v != next64 ep)
section
variable {Q : Nat → Prop} {w0 w : World} {gm gp gl : Nat} {dv pv : Value} {s : MSt} {F : Nat → Int} {t ep asked : Int} {dn ld mv : Bool}
set_option maxRecDepth 100000 in
set_option maxHeartbeats 4000000 in
theorem ask_ok (h : IsMem Q w w0 w gm dv pv s) (hc : Calm s) (ok : Okay F) (he : W64 ep) (n : Int) (hn : 0 ≤ n ∧ n < 1000) (hb : Blk w gp 250 (acells gl t dn ld ep asked mv)) (hl : Blk w gl 173 (cellsF F)) (qp : Q gp) (ql : Q gl) (p0 : w0.heap.size ≤ gp) :
    Calls Tryz.prog 228 #[.pointer (some ⟨gp, 0, none⟩), .pointer (some ⟨gm, 0, none⟩), .int .i64 n] w fun e w' => (∃ u, e = .returned u) ∧ IsMem Q w' w0 w' gm dv pv (s.load t (ann F n)) ∧ Blk w' gp 250 (acells gl t (holds ep (peekV s (ann F n))) ld ep (n + 1) mv) ∧ (∀ b, Q b → b ≠ gp → w'.heap[b]? = w.heap[b]?) := by
  have HK : Hid (∀ W s', IsMem Q w w0 W gm dv pv s' → Blk W gp 250 (acells gl t dn ld ep asked mv) ∧ Blk W gl 173 (cellsF F)) := Lib.hid (fun W s' m => ⟨(m.keptQ gp qp).trans hb, (m.keptQ gl ql).trans hl⟩)
  have HP : Hid (∀ W s', IsMem Q w w0 W gm dv pv s' → W.cell? ⟨gp, 0, none⟩ = some (.pointer (some ⟨gl, 0, none⟩)) ∧ W.cell? ⟨gp, 1, none⟩ = some (.int .i64 t)) := Lib.hid (fun W s' m => ⟨((HK.out W s' m).1).cell 0, ((HK.out W s' m).1).cell 1⟩)
  have har := ann_rng ok n
  have HAn : Hid (∀ W s', IsMem Q w w0 W gm dv pv s' → Calls Tryz.prog 242 #[.pointer (some ⟨gl, 0, none⟩), .int .i64 n] W fun e w' => e = .returned (.int .i64 (ann F n)) ∧ Ext W w') := Lib.hid (fun W s' m => ann_ok ok gl n W (HK.out W s' m).2)
  have HL : Hid (∀ W, IsMem Q w w0 W gm dv pv s → Calls Tryz.prog 69 #[.pointer (some ⟨gm, 0, none⟩), .int .i64 t, .int .i64 (ann F n)] W fun e w' => e = .returned (.int .u64 (peekV s (ann F n))) ∧ IsMem Q w w0 w' gm dv pv (s.load t (ann F n))) := Lib.hid (fun W m => memLoad_ok m t _ har.1 har.2 hc)
  have M := Lib.hid (h.ext ((Ext.refl w).drew))
  generalize peekV s (ann F n) = v at *
  generalize s.load t (ann F n) = s1 at *
  generalize ann F n = a at *
  have HNx : Hid (∀ W s', IsMem Q w w0 W gm dv pv s' → Calls Tryz.prog 243 #[.pointer (some ⟨gp, 0, none⟩)] W fun e w' => e = .returned (.int .u64 (next64 ep)) ∧ W = w') := Lib.hid (fun W s' m => enext_ok W gp ep he ((HK.out W s' m).1.cell 4))
  obtain ⟨r, hr⟩ : ∃ r, holds ep v = r := ⟨_, rfl⟩
  have hr' : ((v != 0) && (v != next64 ep)) = r := hr
  rw [hr]
  generalize next64 ep = x at *
  have wn : IntKind.i64.wrap (n + 1) = n + 1 := i64w _ (by omega) (by omega)
  have c0 : w.cell? ⟨gp, 0, none⟩ = some (.pointer (some ⟨gl, 0, none⟩)) := hb.cell 0
  have HEnd : Hid (∀ W, IsMem Q w w0 W gm dv pv s1 → IsMem Q ((W.setCell ⟨gp, 2, none⟩ (.bool r)).setCell ⟨gp, 5, none⟩ (.int .i64 (n + 1))) w0 ((W.setCell ⟨gp, 2, none⟩ (.bool r)).setCell ⟨gp, 5, none⟩ (.int .i64 (n + 1))) gm dv pv s1 ∧ Blk ((W.setCell ⟨gp, 2, none⟩ (.bool r)).setCell ⟨gp, 5, none⟩ (.int .i64 (n + 1))) gp 250 (acells gl t r ld ep (n + 1) mv) ∧ (∀ b, Q b → b ≠ gp → ((W.setCell ⟨gp, 2, none⟩ (.bool r)).setCell ⟨gp, 5, none⟩ (.int .i64 (n + 1))).heap[b]? = w.heap[b]?)) := Lib.hid (fun W m => by
    have f : Fr (fun b => b = gp) W ((W.setCell ⟨gp, 2, none⟩ (.bool r)).setCell ⟨gp, 5, none⟩ (.int .i64 (n + 1))) := Fr.setCell (S := fun b => b = gp) (p := ⟨gp, 5, none⟩) (Fr.setCell (S := fun b => b = gp) (p := ⟨gp, 2, none⟩) (Fr.refl _ W) (Or.inl rfl) _) (Or.inl rfl) _
    refine ⟨m.turn f (fun b e => by rw [e]; exact qp) (fun b e => by rw [e]; exact p0), (((HK.out W _ m).1).set 2 _).set 5 _, fun b hb hne => ?_⟩
    exact (f.block b (m.lt.2 b hb) hne).trans (m.keptQ b hb))
  clear h hb hl hc ok he har hr
  go_enter Tryz.func228, Tryz.ntmps228
  go_wp2_with fail
  go_region_held3 (fun W => W.cell? ⟨gp, 0, none⟩ = some (.pointer (some ⟨gl, 0, none⟩)) ∧ W.cell? ⟨gp, 1, none⟩ = some (.int .i64 t)) (first | exact HP.out _ _ M.out | go_keep) (first
    | (go_at_call 242; refine (HAn.out _ _ M.out).mono ?_; rintro e w1 ⟨rfl, x1⟩; replace M := Lib.hid (M.out.ext x1); clear x1)
    | (go_at_call 69; refine (HL.out _ M.out).mono ?_; rintro e w1 ⟨rfl, m1⟩; replace M := Lib.hid m1; clear m1))
  all_goals
    have y2 : w1.cell? ⟨gp, 2, none⟩ = some (.bool dn) := ((HK.out _ _ M.out).1).cell 2
    have z2 : w1.frozen? ⟨gp, 2, none⟩ = false := ((HK.out _ _ M.out).1).frozen 2
    have y5 : w1.cell? ⟨gp, 5, none⟩ = some (.int .i64 asked) := ((HK.out _ _ M.out).1).cell 5
    have z5 : w1.frozen? ⟨gp, 5, none⟩ = false := ((HK.out _ _ M.out).1).frozen 5
    have HE1 := Lib.hid (HEnd.out w1 M.out)
    have HN1 := Lib.hid (HNx.out w1 _ M.out)
    clear HEnd HNx HAn HL HP HK
    by_cases v0 : v = 0
    · obtain rfl : r = false := by rw [← hr', v0]; rfl
      subst v0
      clear hr'
      go_wp2_with fail
      refine bodyPost_end (results_none rfl _ _ _) rfl ?_
      exact ⟨⟨_, rfl⟩, HE1.out⟩
    · have d0 : (v != 0) = true := by rw [bne_iff_ne]; exact v0
      rw [d0, Bool.true_and] at hr'
      go_wp2_with fail
      refine HN1.out.mono ?_
      rintro e w' ⟨rfl, rfl⟩
      subst hr'
      go_wp2_with fail
      refine bodyPost_end (results_none rfl _ _ _) rfl ?_
      exact ⟨⟨_, rfl⟩, HE1.out⟩
set_option maxRecDepth 100000 in
set_option maxHeartbeats 4000000 in
theorem move_ok (h : IsMem Q w w0 w gm dv pv s) (hc : Calm s) (he : W64 ep) (hF : F 21 = -1) (hb : Blk w gp 250 (acells gl t dn ld ep asked mv)) (hl : Blk w gl 173 (cellsF F)) (qp : Q gp) (ql : Q gl) (p0 : w0.heap.size ≤ gp) :
    Calls Tryz.prog 229 #[.pointer (some ⟨gp, 0, none⟩), .pointer (some ⟨gm, 0, none⟩)] w fun e w' => (∃ u, e = .returned u) ∧ IsMem Q w' w0 w' gm dv pv (s.swap t (-1) ep (next64 ep)) ∧ Blk w' gp 250 (acells gl t true ld ep asked (swapB s (-1) ep)) ∧ (∀ b, Q b → b ≠ gp → w'.heap[b]? = w.heap[b]?) := by
  have HK : Hid (∀ W s', IsMem Q w w0 W gm dv pv s' → Blk W gp 250 (acells gl t dn ld ep asked mv) ∧ Blk W gl 173 (cellsF F)) := Lib.hid (fun W s' m => ⟨(m.keptQ gp qp).trans hb, (m.keptQ gl ql).trans hl⟩)
  have HP : Hid (∀ W s', IsMem Q w w0 W gm dv pv s' → W.cell? ⟨gp, 0, none⟩ = some (.pointer (some ⟨gl, 0, none⟩)) ∧ W.cell? ⟨gp, 1, none⟩ = some (.int .i64 t) ∧ W.cell? ⟨gp, 4, none⟩ = some (.int .u64 ep)) := Lib.hid (fun W s' m => ⟨((HK.out W s' m).1).cell 0, ((HK.out W s' m).1).cell 1, ((HK.out W s' m).1).cell 4⟩)
  have HP2 : Hid (∀ W s' u, IsMem Q w w0 W gm dv pv s' → (W.setCell ⟨gp, 6, none⟩ u).cell? ⟨gp, 0, none⟩ = some (.pointer (some ⟨gl, 0, none⟩)) ∧ (W.setCell ⟨gp, 6, none⟩ u).cell? ⟨gp, 1, none⟩ = some (.int .i64 t) ∧ (W.setCell ⟨gp, 6, none⟩ u).cell? ⟨gp, 4, none⟩ = some (.int .u64 ep)) := Lib.hid (fun W s' u m => ⟨(((HK.out W s' m).1).set 6 u).cell 0, (((HK.out W s' m).1).set 6 u).cell 1, (((HK.out W s' m).1).set 6 u).cell 4⟩)
  have HEp : Hid (∀ W s', IsMem Q w w0 W gm dv pv s' → Calls Tryz.prog 132 #[.pointer (some ⟨gl, 0, none⟩)] W fun e w' => e = .returned (.int .i64 (-1)) ∧ Ext W w') := Lib.hid (fun W s' m => tEpoch_m1 gl W (HK.out W s' m).2 hF)
  have HNx : Hid (∀ W s', IsMem Q w w0 W gm dv pv s' → Calls Tryz.prog 243 #[.pointer (some ⟨gp, 0, none⟩)] W fun e w' => e = .returned (.int .u64 (next64 ep)) ∧ W = w') := Lib.hid (fun W s' m => enext_ok W gp ep he ((HK.out W s' m).1.cell 4))
  have HL : Hid (∀ W, IsMem Q w w0 W gm dv pv s → Calls Tryz.prog 70 #[.pointer (some ⟨gm, 0, none⟩), .int .i64 t, .int .i64 (-1), .int .u64 ep, .int .u64 (next64 ep)] W fun e w' => e = .returned (.bool (swapB s (-1) ep)) ∧ IsMem Q w w0 w' gm dv pv (s.swap t (-1) ep (next64 ep))) := Lib.hid (fun W m => memSwap_ok m t (-1) ep (next64 ep) (by decide) (by decide) (next64_rng ep) hc)
  have M := Lib.hid (h.ext ((Ext.refl w).drew))
  generalize s.swap t (-1) ep (next64 ep) = s1 at *
  generalize swapB s (-1) ep = d at *
  generalize next64 ep = x at *
  have c0 : w.cell? ⟨gp, 0, none⟩ = some (.pointer (some ⟨gl, 0, none⟩)) := hb.cell 0
  clear h hb hl hF hc he
  go_enter Tryz.func229, Tryz.ntmps229
  go_wp2_with fail
  go_region_held3 (fun W => W.cell? ⟨gp, 0, none⟩ = some (.pointer (some ⟨gl, 0, none⟩)) ∧ W.cell? ⟨gp, 1, none⟩ = some (.int .i64 t) ∧ W.cell? ⟨gp, 4, none⟩ = some (.int .u64 ep)) (first | exact HP.out _ _ M.out | exact HP2.out _ _ _ M.out | go_keep) (first
    | (go_at_call 132; refine (HEp.out _ _ M.out).mono ?_; rintro e w1 ⟨rfl, x1⟩; replace M := Lib.hid (M.out.ext x1); clear x1)
    | (go_at_call 243; refine (HNx.out _ _ M.out).mono ?_; rintro e w' ⟨rfl, rfl⟩)
    | (go_at_call 70; refine (HL.out _ M.out).mono ?_; rintro e w1 ⟨rfl, m1⟩; replace M := Lib.hid m1; have y6 : w1.cell? ⟨gp, 6, none⟩ = some (.bool mv) := ((HK.out _ _ m1).1).cell 6; have z6 : w1.frozen? ⟨gp, 6, none⟩ = false := ((HK.out _ _ m1).1).frozen 6; clear m1))
  all_goals
    have y2 : w1.cell? ⟨gp, 2, none⟩ = some (.bool dn) := ((HK.out _ _ M.out).1).cell 2
    have z2 : w1.frozen? ⟨gp, 2, none⟩ = false := ((HK.out _ _ M.out).1).frozen 2
    go_wp2_with fail
    have f : Fr (fun b => b = gp) w1 ((w1.setCell ⟨gp, 6, none⟩ (.bool d)).setCell ⟨gp, 2, none⟩ (.bool true)) := Fr.setCell (S := fun b => b = gp) (p := ⟨gp, 2, none⟩) (Fr.setCell (S := fun b => b = gp) (p := ⟨gp, 6, none⟩) (Fr.refl _ w1) (Or.inl rfl) _) (Or.inl rfl) _
    refine bodyPost_end (results_none rfl _ _ _) rfl ?_
    refine ⟨⟨_, rfl⟩, M.out.turn f (fun b e => by rw [e]; exact qp) (fun b e => by rw [e]; exact p0), (((HK.out _ _ M.out).1).set 6 _).set 2 _, fun b hb hne => ?_⟩
    exact (f.block b (M.out.lt.2 b hb) hne).trans (M.out.keptQ b hb)
end
end Go.Proofs.YtbicloceaddinaaGreat


/- Package epoch: by which epoch a thread is in; the document's word of an announcement. Conditions: those that each theorem names. -/
namespace Go.Proofs.YtbicloceaddinaaGreat
open Go.ChangeShapes Go.WideShapes Go.ChangeAt Go.RowKit
set_option linter.unusedVariables false
theorem rann_ok {t s l b : Nat} (c : CfgN t s l b) (n : Int) (w : World) :
    Calls Tryz.prog 162 #[.agg #[.int .i64 t, .int .i64 s, .int .i64 l, .int .i64 b], .int .i64 n] w fun e w' => e = .returned (.int .i64 (ann (layF t s l b) n)) ∧ Ext w w' := by
  have HA := Lib.hid (fun W => at_any t s l b 16 n 0 W c.t1 c.s1 c.s0 c.l1 c.b1 (by decide) (by decide) (fun _ => rfl) (fun h => by omega))
  have e1 : toldF (layF t s l b) 16 n 0 = ann (layF t s l b) n := rfl
  rw [e1] at HA
  have X0 := Lib.hid ((Ext.refl w).alloc (.cells #[.int .i64 t, .int .i64 s, .int .i64 l, .int .i64 b] 23))
  generalize ann (layF t s l b) n = a at *
  clear e1 c
  go_enter Tryz.func162, Tryz.ntmps162
  go_wp2_with fail
  refine (HA.out _).mono ?_
  rintro e w1 ⟨rfl, x1⟩
  have X1 := Lib.hid (X0.out.trans x1)
  clear x1
  go_wp2_with fail
  go_ret
  exact ⟨rfl, X1.out⟩
theorem fldC0 (t s l b : Int) (w : World) : (Instr.field 23 (.agg #[.int .i64 t, .int .i64 s, .int .i64 l, .int .i64 b]) 0).run Tryz.prog w = .ok (.int .i64 t) w := by kernel_rfl
end Go.Proofs.YtbicloceaddinaaGreat

