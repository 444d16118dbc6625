/- Acts that came in, read; what is done to no device. Conditions: those that each theorem names. -/
import Derived.Test.YtlnaffedbcpkpaaDev8
import Derived.Test.YtlnaffedbcpkpaaViews
namespace Go.Proofs.Ytlnaffedbcpkpaa
open Go.ChangeShapes Go.WideShapes Go.ChangeAt Go.RowKit Go.Deep
set_option linter.unusedVariables false
section
variable {H : Type} {enc : TypeId × Value → H} {P : Program}
def ActOk (k t l a x : Int) : Prop := (Lit.int .i64 k).wf = true ∧ (Lit.int .i64 t).wf = true ∧ (Lit.int .i64 l).wf = true ∧ (Lit.int .i64 a).wf = true ∧ (Lit.int .u64 x).wf = true
theorem trod_act {W : World} {b : Nat} {sp : Nat → Bool} {held : Bool} {ty : TypeId} {f0 f1 f2 f3 f4 : Field} {fuel : Nat} {cs : List Value} {d : DataW H × List MemPlace} (ht : P.underlying ty = some (.struct #[f0, f1, f2, f3, f4])) (hone : oneCellFields P #[f0, f1, f2, f3, f4] = true) (hC : P.cellsOf ty = 5)
    (u0 : P.underlying f0.type = some (.int .i64)) (u1 : P.underlying f1.type = some (.int .i64)) (u2 : P.underlying f2.type = some (.int .i64)) (u3 : P.underlying f3.type = some (.int .i64)) (u4 : P.underlying f4.type = some (.int .u64))
    (h : DataW.trod enc P W b sp held fuel ty cs = some d) : ∃ k t l a x : Int, cs = [.int .i64 k, .int .i64 t, .int .i64 l, .int .i64 a, .int .u64 x] ∧ ActOk k t l a x := by
  obtain ⟨xs, n, _, _, hl, hlen, hf⟩ := DataW.trod_struct ht h
  rw [hC] at hl
  obtain ⟨o0, k0⟩ := hone_of hone 0 f0 rfl
  obtain ⟨o1, k1⟩ := hone_of hone 1 f1 rfl
  obtain ⟨o2, k2⟩ := hone_of hone 2 f2 rfl
  obtain ⟨o3, k3⟩ := hone_of hone 3 f3 rfl
  obtain ⟨o4, k4⟩ := hone_of hone 4 f4 rfl
  match cs, hl, xs, hlen with
  | [c0, c1, c2, c3, c4], _, [y0, y1, y2, y3, y4], _ =>
    have h0 := hf 0 f0 rfl
    have h1 := hf 1 f1 rfl
    have h2 := hf 2 f2 rfl
    have h3 := hf 3 f3 rfl
    have h4 := hf 4 f4 rfl
    simp [o0, k0] at h0
    simp [o1, k1] at h1
    simp [o2, k2] at h2
    simp [o3, k3] at h3
    simp [o4, k4] at h4
    obtain ⟨k, e0, _, w0⟩ := DataW.trod_int u0 h0
    obtain ⟨t, e1, _, w1⟩ := DataW.trod_int u1 h1
    obtain ⟨l, e2, _, w2⟩ := DataW.trod_int u2 h2
    obtain ⟨a, e3, _, w3⟩ := DataW.trod_int u3 h3
    obtain ⟨x, e4, _, w4⟩ := DataW.trod_int u4 h4
    injection e0 with e0
    injection e1 with e1
    injection e2 with e2
    injection e3 with e3
    injection e4 with e4
    exact ⟨k, t, l, a, x, by rw [e0, e1, e2, e3, e4], w0, w1, w2, w3, w4⟩
/-- An act that came in by its value. -/
theorem view_act {W : World} {ty : TypeId} {f0 f1 f2 f3 f4 : Field} {v : Value} {d : DataW H} {p : List MemPlace} (ht : P.underlying ty = some (.struct #[f0, f1, f2, f3, f4])) (hone : oneCellFields P #[f0, f1, f2, f3, f4] = true) (hC : P.cellsOf ty = 5)
    (u0 : P.underlying f0.type = some (.int .i64)) (u1 : P.underlying f1.type = some (.int .i64)) (u2 : P.underlying f2.type = some (.int .i64)) (u3 : P.underlying f3.type = some (.int .i64)) (u4 : P.underlying f4.type = some (.int .u64))
    {base : Nat} (hv : Value.okWide P W .any base ty v) (h : DataW.Trod enc P W 0 (fun _ => true) true ty v d p) : ∃ k t l a x : Int, v = .agg #[.int .i64 k, .int .i64 t, .int .i64 l, .int .i64 a, .int .u64 x] ∧ ActOk k t l a x := by
  obtain ⟨cs, rfl, hsz⟩ := okWide_struct ht hv
  obtain ⟨f, hf⟩ := h
  obtain ⟨k, t, l, a, x, e, ok⟩ := trod_act ht hone hC u0 u1 u2 u3 u4 hf
  refine ⟨k, t, l, a, x, ?_, ok⟩
  have e' : cs.toList = _ := e
  rw [← e']
end
/-- What an act on no device tells. -/
def noDevice (k : Int) : Int := if k = 3 then 0 else 1
set_option maxRecDepth 100000 in
set_option maxHeartbeats 1000000 in
theorem do_nil (w : World) (k t l a x : Int) : Calls Try.prog 13 #[.pointer none, .agg #[.int .i64 k, .int .i64 t, .int .i64 l, .int .i64 a, .int .u64 x]] w (fun e w' => e = .returned (.tuple #[.int .u64 0, .int .i64 (noDevice k)]) ∧ Ext w w') := by
  have H0 := Lib.hid (fun W => flush_nil t l W)
  have H1 := Lib.hid (fun W => fence_nil t W)
  have H2 := Lib.hid (fun W => evict_nil l W)
  have H3 := Lib.hid (fun W => crash_nil W)
  have H4 := Lib.hid (fun W => load_nil a W)
  have H5 := Lib.hid (fun W => store_nil a x W)
  go_enter Try.func13, Try.ntmps13
  by_cases c0 : k = 0
  · subst c0
    go_wp2_with fail
    refine (H0.out _).mono ?_
    rintro e w' ⟨rfl, rfl⟩
    go_wp2_with fail
    go_ret2
    exact ⟨rfl, (Ext.refl w).alloc _⟩
  by_cases c1 : k = 1
  · subst c1
    go_wp2_with fail
    refine (H1.out _).mono ?_
    rintro e w' ⟨rfl, rfl⟩
    go_wp2_with fail
    go_ret2
    exact ⟨rfl, (Ext.refl w).alloc _⟩
  by_cases c2 : k = 2
  · subst c2
    go_wp2_with fail
    refine (H2.out _).mono ?_
    rintro e w' ⟨rfl, rfl⟩
    go_wp2_with fail
    go_ret2
    exact ⟨rfl, (Ext.refl w).alloc _⟩
  by_cases c3 : k = 3
  · subst c3
    go_wp2_with fail
    refine (H3.out _).mono ?_
    rintro e w' ⟨⟨u, rfl⟩, rfl⟩
    go_wp2_with fail
    go_ret2
    exact ⟨rfl, (Ext.refl w).alloc _⟩
  by_cases c4 : k = 4
  · subst c4
    go_wp2_with fail
    refine (H4.out _).mono ?_
    rintro e w' ⟨rfl, rfl⟩
    go_wp2_with fail
    go_ret2
    exact ⟨rfl, (Ext.refl w).alloc _⟩
  have t0 : decide (k = 0) = false := by simp [c0]
  have t1 : decide (k = 1) = false := by simp [c1]
  have t2 : decide (k = 2) = false := by simp [c2]
  have t3 : decide (k = 3) = false := by simp [c3]
  have t4 : decide (k = 4) = false := by simp [c4]
  go_wp2_with fail
  refine (H5.out _).mono ?_
  rintro e w' ⟨rfl, rfl⟩
  go_wp2_with fail
  go_ret2
  exact ⟨by simp [noDevice, c3], (Ext.refl w).alloc _⟩
end Go.Proofs.Ytlnaffedbcpkpaa
