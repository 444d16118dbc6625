/- A memory that is made; the page's example of layer 7. Conditions: those that each theorem names. -/
import Derived.Test.YtfbobdkfibhcnaaPm5
import Derived.Test.YtfbobdkfibhcnaaViews
import Derived.BigQuiet
import Derived.Deep.QuietTactic
import Derived.Deep.RegionHeld3
namespace Go.Proofs.Ytfbobdkfibhcnaa
open Go.ChangeShapes Go.WideShapes Go.ChangeAt Go.RowKit
set_option linter.unusedVariables false
/-- What hands back a memory, and no error. -/
def MemNew (Q : Nat → Prop) (wb w0 w : World) (dv : Value) (s : MSt) (e : Ending) (w' : World) : Prop := ∃ gm pv, e = .returned (.tuple #[.pointer (some ⟨gm, 0, none⟩), .int .i64 0]) ∧ IsMem Q wb w0 w' gm dv pv s ∧ Ext w w'
def MSt.new (d : DSt) (n : Nat) : MSt := ⟨d, List.replicate n 0, 0, 0, ⟨0, 0, 0, 0, 0, false⟩⟩
theorem IsMem.made {Q : Nat → Prop} {wb w0 w : World} {gd : Addr} {d : DSt} (h : AtQ Q wb w0 w (.pointer (some gd)) d) (n : Nat) (hn : n ≤ 262144) :
    IsMem Q wb w0 ((w.alloc (.cells (madeCells #[.int .u64 0] (n * 1)) 52)).alloc (.cells #[.pointer (some gd), .slice (some ⟨w.heap.size, 0, none⟩) n n, .int .i64 0, .int .i64 0, .int .i64 0, .int .i64 0, .int .i64 0, .int .u64 0, .int .u64 0, .bool false] 100)) (w.heap.size + 1) (.pointer (some gd)) (.slice (some ⟨w.heap.size, 0, none⟩) n n) (MSt.new d n) := by
  have x := ext2 w (.cells (madeCells #[.int .u64 0] (n * 1)) 52) (.cells #[.pointer (some gd), .slice (some ⟨w.heap.size, 0, none⟩) n n, .int .i64 0, .int .i64 0, .int .i64 0, .int .i64 0, .int .i64 0, .int .u64 0, .int .u64 0, .bool false] 100)
  have hx := h.held
  have hb := Blk.new (w.alloc (.cells (madeCells #[.int .u64 0] (n * 1)) 52)) 100 [.pointer (some gd), .slice (some ⟨w.heap.size, 0, none⟩) n n, .int .i64 0, .int .i64 0, .int .i64 0, .int .i64 0, .int .i64 0, .int .u64 0, .int .u64 0, .bool false]
  have hr := (Row.made w 52 n n .u64 (Nat.le_refl _) (by omega)).ext ((Ext.refl _).alloc (.cells #[.pointer (some gd), .slice (some ⟨w.heap.size, 0, none⟩) n n, .int .i64 0, .int .i64 0, .int .i64 0, .int .i64 0, .int .i64 0, .int .u64 0, .int .u64 0, .bool false] 100))
  have hsz : (w.alloc (.cells (madeCells #[.int .u64 0] (n * 1)) 52)).heap.size = w.heap.size + 1 := by simp
  rw [hsz] at hb
  have hlt := hb.lt
  have h0 := hx.1.size
  have hown : (Value.slice (some ⟨w.heap.size, 0, none⟩) n n).ownBlock = some w.heap.size := rfl
  refine ⟨by omega, hb, hr.mono h0, ?_, by rw [hown]; simp, ?_, by simp [MSt.new]; exact hn, lim_noughts n⟩
  · refine h.turnM (S := fun _ => False) (hx.1.trans x) (Fr.of_ext x) (fun _ hs => hs.elim) (fun g hg => ?_)
    rcases hg with rfl | hg | hg
    · exact ⟨hlt, Or.inr (by omega)⟩
    · rw [hown] at hg
      have : w.heap.size = g := by simpa using hg
      exact ⟨by omega, Or.inr (by omega)⟩
    · exact ⟨Nat.lt_of_lt_of_le (hx.2 g hg).1 x.size, Or.inl hg⟩
  · intro g hg
    have hg2 := (hx.2 g hg).1
    refine ⟨by omega, ?_, (x.block g hg2).trans (hx.2 g hg).2⟩
    rw [hown]
    simp
    omega
theorem memNew_ok {Q : Nat → Prop} {wb w0 w : World} {dv : Value} {d : DSt} (h : AtQ Q wb w0 w dv d) (n : Nat) (hn : n ≤ 262144) :
    Calls Try.prog 41 #[dv, .int .i64 (n : Int)] w (MemNew Q wb w0 w dv (MSt.new d n)) := by
  have hv := h
  obtain ⟨D, rfl, _, _, _⟩ := hv
  unfold DevB.ptr at *
  have hM := IsMem.made h n hn
  rw [Nat.mul_one] at hM
  have HM := Lib.hid hM
  clear hM
  have hmk := fun W => make_words n n (Nat.le_refl _) (by omega) W
  clear h
  have u1 : ¬ (n : Int) < 0 := by omega
  have u2 : ¬ (262144 : Int) < (n : Int) := by omega
  have u3 : decide (262144 < n) = false := by simp; omega
  go_enter Try.func41, Try.ntmps41
  go_wp2_with fail
  go_ret2
  refine ⟨w.heap.size + 1, _, ?_, HM.out, ext2 w _ _⟩
  first | rfl | simp
theorem memNew_nil (n : Int) (w : World) : Calls Try.prog 41 #[.pointer none, .int .i64 n] w fun e w' => e = .returned (.tuple #[.pointer none, .int .i64 1]) ∧ w = w' := by
  go_enter Try.func41, Try.ntmps41
  go_wp2
  go_ret2
  exact ⟨rfl, rfl⟩
theorem memNew_out (g : Addr) (n : Int) (w : World) (h : n < 0 ∨ 262144 < n) : Calls Try.prog 41 #[.pointer (some g), .int .i64 n] w fun e w' => e = .returned (.tuple #[.pointer none, .int .i64 1]) ∧ w = w' := by
  by_cases h1 : n < 0
  · clear h
    go_enter Try.func41, Try.ntmps41
    go_wp2
    go_ret2
    exact ⟨rfl, rfl⟩
  · have h2 : 262144 < n := by omega
    clear h
    go_enter Try.func41, Try.ntmps41
    go_wp2
    go_ret2
    exact ⟨rfl, rfl⟩
end Go.Proofs.Ytfbobdkfibhcnaa

/- Acts of layer 7 that came in, read; what is done to no memory. Conditions: those that each theorem names. -/
namespace Go.Proofs.Ytfbobdkfibhcnaa
open Go.ChangeShapes Go.WideShapes Go.ChangeAt Go.RowKit Go.Deep
set_option linter.unusedVariables false
section
variable {H : Type} {enc : TypeId × Value → H} {P : Program}
def ActOk7 (k t l a x : Int) : Prop := (Lit.int .i64 k).wf = true ∧ (Lit.int .i64 t).wf = true ∧ (Lit.int .i64 l).wf = true ∧ (Lit.int .u64 a).wf = true ∧ (Lit.int .u64 x).wf = true
theorem trod_act7 {W : World} {b : Nat} {sp : Nat → Bool} {held : Bool} {ty : TypeId} {f0 f1 f2 f3 f4 : Field} {fuel : Nat} {cs : List Value} {d : DataW H × List MemPlace} (ht : P.underlying ty = some (.struct #[f0, f1, f2, f3, f4])) (hone : oneCellFields P #[f0, f1, f2, f3, f4] = true) (hC : P.cellsOf ty = 5)
    (u0 : P.underlying f0.type = some (.int .i64)) (u1 : P.underlying f1.type = some (.int .i64)) (u2 : P.underlying f2.type = some (.int .i64)) (u3 : P.underlying f3.type = some (.int .u64)) (u4 : P.underlying f4.type = some (.int .u64))
    (h : DataW.trod enc P W b sp held fuel ty cs = some d) : ∃ k t l a x : Int, cs = [.int .i64 k, .int .i64 t, .int .i64 l, .int .u64 a, .int .u64 x] ∧ ActOk7 k t l a x := by
  obtain ⟨xs, n, _, _, hl, hlen, hf⟩ := DataW.trod_struct ht h
  rw [hC] at hl
  obtain ⟨o0, k0⟩ := hone_of hone 0 f0 rfl
  obtain ⟨o1, k1⟩ := hone_of hone 1 f1 rfl
  obtain ⟨o2, k2⟩ := hone_of hone 2 f2 rfl
  obtain ⟨o3, k3⟩ := hone_of hone 3 f3 rfl
  obtain ⟨o4, k4⟩ := hone_of hone 4 f4 rfl
  match cs, hl, xs, hlen with
  | [c0, c1, c2, c3, c4], _, [y0, y1, y2, y3, y4], _ =>
    have h0 := hf 0 f0 rfl
    have h1 := hf 1 f1 rfl
    have h2 := hf 2 f2 rfl
    have h3 := hf 3 f3 rfl
    have h4 := hf 4 f4 rfl
    simp [o0, k0] at h0
    simp [o1, k1] at h1
    simp [o2, k2] at h2
    simp [o3, k3] at h3
    simp [o4, k4] at h4
    obtain ⟨k, e0, _, w0⟩ := DataW.trod_int u0 h0
    obtain ⟨t, e1, _, w1⟩ := DataW.trod_int u1 h1
    obtain ⟨l, e2, _, w2⟩ := DataW.trod_int u2 h2
    obtain ⟨a, e3, _, w3⟩ := DataW.trod_int u3 h3
    obtain ⟨x, e4, _, w4⟩ := DataW.trod_int u4 h4
    injection e0 with e0
    injection e1 with e1
    injection e2 with e2
    injection e3 with e3
    injection e4 with e4
    exact ⟨k, t, l, a, x, by rw [e0, e1, e2, e3, e4], w0, w1, w2, w3, w4⟩
/-- An act that came in by its value. -/
theorem view_act7 {W : World} {ty : TypeId} {f0 f1 f2 f3 f4 : Field} {v : Value} {d : DataW H} {p : List MemPlace} (ht : P.underlying ty = some (.struct #[f0, f1, f2, f3, f4])) (hone : oneCellFields P #[f0, f1, f2, f3, f4] = true) (hC : P.cellsOf ty = 5)
    (u0 : P.underlying f0.type = some (.int .i64)) (u1 : P.underlying f1.type = some (.int .i64)) (u2 : P.underlying f2.type = some (.int .i64)) (u3 : P.underlying f3.type = some (.int .u64)) (u4 : P.underlying f4.type = some (.int .u64))
    {base : Nat} (hv : Value.okWide P W .any base ty v) (h : DataW.Trod enc P W 0 (fun _ => true) true ty v d p) : ∃ k t l a x : Int, v = .agg #[.int .i64 k, .int .i64 t, .int .i64 l, .int .u64 a, .int .u64 x] ∧ ActOk7 k t l a x := by
  obtain ⟨cs, rfl, hsz⟩ := okWide_struct ht hv
  obtain ⟨f, hf⟩ := h
  obtain ⟨k, t, l, a, x, e, ok⟩ := trod_act7 ht hone hC u0 u1 u2 u3 u4 hf
  refine ⟨k, t, l, a, x, ?_, ok⟩
  have e' : cs.toList = _ := e
  rw [← e']
end
end Go.Proofs.Ytfbobdkfibhcnaa

/- Memory: Flush, Fence, Crash. Conditions: those that each theorem names. -/
namespace Go.Proofs.Ytfbobdkfibhcnaa
open Go.ChangeShapes Go.WideShapes Go.ChangeAt Go.RowKit
set_option linter.unusedVariables false
def MSt.withDev (s : MSt) (d : DSt) : MSt := { s with dev := d }
def MSt.asked (s : MSt) (k t a : Int) (d : DSt) (er : Int) : MSt := (s.withDev d).note ⟨k, t, a, 0, 0, (er == 0)⟩ (!(er == 0))
def MSt.flush (s : MSt) (t a : Int) : MSt := s.asked 4 t a (s.dev.flush t (lineNo a)) (flushE s.dev t (lineNo a))
def MSt.fence (s : MSt) (t : Int) : MSt := s.asked 5 t 0 (s.dev.fence t) (fenceE s.dev t)
section
variable {Q : Nat → Prop} {wb w0 w : World} {gm : Nat} {dv pv : Value} {s : MSt}
end
end Go.Proofs.Ytfbobdkfibhcnaa
