/- Acts of layer 7 that came in, read; what is done to no memory. Conditions: those that each theorem names. -/
import Derived.Test.YtlnaffedbcpkpaaPm6
import Derived.Test.YtlnaffedbcpkpaaViews
namespace Go.Proofs.Ytlnaffedbcpkpaa
open Go.ChangeShapes Go.WideShapes Go.ChangeAt Go.RowKit Go.Deep
set_option linter.unusedVariables false
section
variable {H : Type} {enc : TypeId × Value → H} {P : Program}
def ActOk7 (k t l a x : Int) : Prop := (Lit.int .i64 k).wf = true ∧ (Lit.int .i64 t).wf = true ∧ (Lit.int .i64 l).wf = true ∧ (Lit.int .u64 a).wf = true ∧ (Lit.int .u64 x).wf = true
theorem trod_act7 {W : World} {b : Nat} {sp : Nat → Bool} {held : Bool} {ty : TypeId} {f0 f1 f2 f3 f4 : Field} {fuel : Nat} {cs : List Value} {d : DataW H × List MemPlace} (ht : P.underlying ty = some (.struct #[f0, f1, f2, f3, f4])) (hone : oneCellFields P #[f0, f1, f2, f3, f4] = true) (hC : P.cellsOf ty = 5)
    (u0 : P.underlying f0.type = some (.int .i64)) (u1 : P.underlying f1.type = some (.int .i64)) (u2 : P.underlying f2.type = some (.int .i64)) (u3 : P.underlying f3.type = some (.int .u64)) (u4 : P.underlying f4.type = some (.int .u64))
    (h : DataW.trod enc P W b sp held fuel ty cs = some d) : ∃ k t l a x : Int, cs = [.int .i64 k, .int .i64 t, .int .i64 l, .int .u64 a, .int .u64 x] ∧ ActOk7 k t l a x := by
  obtain ⟨xs, n, _, _, hl, hlen, hf⟩ := DataW.trod_struct ht h
  rw [hC] at hl
  obtain ⟨o0, k0⟩ := hone_of hone 0 f0 rfl
  obtain ⟨o1, k1⟩ := hone_of hone 1 f1 rfl
  obtain ⟨o2, k2⟩ := hone_of hone 2 f2 rfl
  obtain ⟨o3, k3⟩ := hone_of hone 3 f3 rfl
  obtain ⟨o4, k4⟩ := hone_of hone 4 f4 rfl
  match cs, hl, xs, hlen with
  | [c0, c1, c2, c3, c4], _, [y0, y1, y2, y3, y4], _ =>
    have h0 := hf 0 f0 rfl
    have h1 := hf 1 f1 rfl
    have h2 := hf 2 f2 rfl
    have h3 := hf 3 f3 rfl
    have h4 := hf 4 f4 rfl
    simp [o0, k0] at h0
    simp [o1, k1] at h1
    simp [o2, k2] at h2
    simp [o3, k3] at h3
    simp [o4, k4] at h4
    obtain ⟨k, e0, _, w0⟩ := DataW.trod_int u0 h0
    obtain ⟨t, e1, _, w1⟩ := DataW.trod_int u1 h1
    obtain ⟨l, e2, _, w2⟩ := DataW.trod_int u2 h2
    obtain ⟨a, e3, _, w3⟩ := DataW.trod_int u3 h3
    obtain ⟨x, e4, _, w4⟩ := DataW.trod_int u4 h4
    injection e0 with e0
    injection e1 with e1
    injection e2 with e2
    injection e3 with e3
    injection e4 with e4
    exact ⟨k, t, l, a, x, by rw [e0, e1, e2, e3, e4], w0, w1, w2, w3, w4⟩
/-- An act that came in by its value. -/
theorem view_act7 {W : World} {ty : TypeId} {f0 f1 f2 f3 f4 : Field} {v : Value} {d : DataW H} {p : List MemPlace} (ht : P.underlying ty = some (.struct #[f0, f1, f2, f3, f4])) (hone : oneCellFields P #[f0, f1, f2, f3, f4] = true) (hC : P.cellsOf ty = 5)
    (u0 : P.underlying f0.type = some (.int .i64)) (u1 : P.underlying f1.type = some (.int .i64)) (u2 : P.underlying f2.type = some (.int .i64)) (u3 : P.underlying f3.type = some (.int .u64)) (u4 : P.underlying f4.type = some (.int .u64))
    {base : Nat} (hv : Value.okWide P W .any base ty v) (h : DataW.Trod enc P W 0 (fun _ => true) true ty v d p) : ∃ k t l a x : Int, v = .agg #[.int .i64 k, .int .i64 t, .int .i64 l, .int .u64 a, .int .u64 x] ∧ ActOk7 k t l a x := by
  obtain ⟨cs, rfl, hsz⟩ := okWide_struct ht hv
  obtain ⟨f, hf⟩ := h
  obtain ⟨k, t, l, a, x, e, ok⟩ := trod_act7 ht hone hC u0 u1 u2 u3 u4 hf
  refine ⟨k, t, l, a, x, ?_, ok⟩
  have e' : cs.toList = _ := e
  rw [← e']
end
set_option maxRecDepth 100000 in
set_option maxHeartbeats 1000000 in
theorem do7_nil (w : World) (k t a z x : Int) : Calls Try.prog 20 #[.pointer none, .agg #[.int .i64 k, .int .i64 t, .int .i64 a, .int .u64 z, .int .u64 x]] w (fun e w' => (∃ u, e = .returned u) ∧ Ext w w') := by
  have H1 := Lib.hid (fun W => loadM_nil t a W)
  have H2 := Lib.hid (fun W => storeM_nil t a x W)
  have H3 := Lib.hid (fun W => swapM_nil t a z x W)
  have H4 := Lib.hid (fun W => flushM_nil t a W)
  have H5 := Lib.hid (fun W => fenceM_nil t W)
  have H6 := Lib.hid (fun W => device_nil W)
  have H7 := Lib.hid (fun W => evict_nil a W)
  have H8 := Lib.hid (fun W => crashM_nil W)
  by_cases k1 : k = 1
  · subst k1
    go_enter Try.func20, Try.ntmps20
    go_wp2_with fail
    refine (H1.out _).mono ?_
    rintro e w1 ⟨rfl, x1⟩
    have xx := ((Ext.refl w).alloc _).trans x1
    clear x1
    go_wp2_with fail
    refine bodyPost_end (results_none rfl _ _ _) rfl ?_
    exact ⟨⟨_, rfl⟩, xx⟩
  by_cases k2 : k = 2
  · subst k2
    go_enter Try.func20, Try.ntmps20
    go_wp2_with fail
    refine (H2.out _).mono ?_
    rintro e w1 ⟨⟨u, rfl⟩, x1⟩
    have xx := ((Ext.refl w).alloc _).trans x1
    clear x1
    go_wp2_with fail
    refine bodyPost_end (results_none rfl _ _ _) rfl ?_
    exact ⟨⟨_, rfl⟩, xx⟩
  by_cases k3 : k = 3
  · subst k3
    go_enter Try.func20, Try.ntmps20
    go_wp2_with fail
    refine (H3.out _).mono ?_
    rintro e w1 ⟨rfl, x1⟩
    have xx := ((Ext.refl w).alloc _).trans x1
    clear x1
    go_wp2_with fail
    refine bodyPost_end (results_none rfl _ _ _) rfl ?_
    exact ⟨⟨_, rfl⟩, xx⟩
  by_cases k4 : k = 4
  · subst k4
    go_enter Try.func20, Try.ntmps20
    go_wp2_with fail
    refine (H4.out _).mono ?_
    rintro e w1 ⟨⟨u, rfl⟩, x1⟩
    have xx := ((Ext.refl w).alloc _).trans x1
    clear x1
    go_wp2_with fail
    refine bodyPost_end (results_none rfl _ _ _) rfl ?_
    exact ⟨⟨_, rfl⟩, xx⟩
  by_cases k5 : k = 5
  · subst k5
    go_enter Try.func20, Try.ntmps20
    go_wp2_with fail
    refine (H5.out _).mono ?_
    rintro e w1 ⟨⟨u, rfl⟩, x1⟩
    have xx := ((Ext.refl w).alloc _).trans x1
    clear x1
    go_wp2_with fail
    refine bodyPost_end (results_none rfl _ _ _) rfl ?_
    exact ⟨⟨_, rfl⟩, xx⟩
  by_cases k6 : k = 6
  · subst k6
    go_enter Try.func20, Try.ntmps20
    go_wp2_with fail
    go_region_with (first | ((with_reducible refine (H6.out _).mono ?_); rintro e w' ⟨rfl, rfl⟩) | ((with_reducible refine (H7.out _).mono ?_); rintro e w' ⟨rfl, rfl⟩))
    all_goals
      go_wp2_with fail
      refine bodyPost_end (results_none rfl _ _ _) rfl ?_
      exact ⟨⟨_, rfl⟩, by first | exact ((Ext.refl w).alloc _).drew | exact ((Ext.refl w).drew).alloc _⟩
  · have t1 : (k == 1) = false := by simp [k1]
    have t2 : (k == 2) = false := by simp [k2]
    have t3 : (k == 3) = false := by simp [k3]
    have t4 : (k == 4) = false := by simp [k4]
    have t5 : (k == 5) = false := by simp [k5]
    have t6 : (k == 6) = false := by simp [k6]
    have d1 : decide (k = 1) = false := by simp [k1]
    have d2 : decide (k = 2) = false := by simp [k2]
    have d3 : decide (k = 3) = false := by simp [k3]
    have d4 : decide (k = 4) = false := by simp [k4]
    have d5 : decide (k = 5) = false := by simp [k5]
    have d6 : decide (k = 6) = false := by simp [k6]
    go_enter Try.func20, Try.ntmps20
    go_wp2_with fail
    refine (H8.out _).mono ?_
    rintro e w1 ⟨⟨u, rfl⟩, x1⟩
    have xx := ((Ext.refl w).alloc _).trans x1
    clear x1
    go_wp2_with fail
    refine bodyPost_end (results_none rfl _ _ _) rfl ?_
    exact ⟨⟨_, rfl⟩, xx⟩
end Go.Proofs.Ytlnaffedbcpkpaa
