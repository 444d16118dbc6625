/- Layer 8: model.do of the queue, of the set, and of no kind. Conditions: those that each theorem names. -/
import Derived.Test.YthbngenjcgclgaaMod26
namespace Go.Proofs.Ythbngenjcgclgaa
open Go.ChangeShapes Go.WideShapes Go.ChangeAt Go.RowKit
set_option linter.unusedVariables false
set_option maxRecDepth 100000 in
set_option maxHeartbeats 2000000 in
theorem do1_ok (w0 w : World) (gs : Nat) (v sv mv : Value) (zs : List Int) (a b : Int) (x0 : Ext w0 w) (hb : Blk w gs 25 [v, sv, mv]) (h : QRow w w0.heap.size v zs) (hgl : w0.heap.size ≤ gs) (hn : zs.length ≤ 1000000) :
    Calls Try.prog 18 #[.pointer (some ⟨gs, 0, none⟩), .agg #[.int .i64 1, .int .u32 a, .int .u32 b]] w fun e w' => e = .returned (.agg #[.int .i64 1, .int .u32 0]) ∧ QueTo w0 w gs v sv mv (zs ++ [b]) w' := by
  have mixed : Try.prog.follows .mixedOrders = true := by kernel_rfl
  have HH := Lib.hid h
  have HB := Lib.hid hb
  have X0 := Lib.hid x0
  have hgs := hb.lt
  have ty := h.typed
  have hvg := ty.ne_blk hb (by decide)
  have HO : Hid (∀ q, v.ownBlock = some q → w0.heap.size ≤ q ∧ q < w.heap.size) := Lib.hid (fun q hq => ⟨(ty q hq).1, (ty q hq).2.1⟩)
  have HV := Lib.hid hvg
  obtain ⟨A, c, rfl, _, _, _⟩ := h.form
  obtain ⟨n, hl⟩ : ∃ n, zs.length = n := ⟨_, rfl⟩
  rw [hl] at HH HB HO HV hn ⊢
  have HL := Lib.hid hl
  clear h hb x0 ty hvg hl
  have l0 := (Blk.new w 38 [.int .i64 1, .int .u32 a, .int .u32 b]).ext ((Ext.refl _).alloc (.cells #[.int .i64 0, .int .u32 0] 34))
  have l1 := Blk.new (w.alloc (.cells #[.int .i64 1, .int .u32 a, .int .u32 b] 38)) 34 [.int .i64 0, .int .u32 0]
  rw [show (w.alloc (.cells #[.int .i64 1, .int .u32 a, .int .u32 b] 38)).heap.size = w.heap.size + 1 by simp] at l1
  have XB := Lib.hid (((Ext.refl w).alloc (.cells #[.int .i64 1, .int .u32 a, .int .u32 b] 38)).alloc (.cells #[.int .i64 0, .int .u32 0] 34))
  have L0 := Lib.hid l0
  have L1 := Lib.hid l1
  clear l0 l1
  go_enter Try.func18, Try.ntmps18
  go_upto_region 3 with fail
  generalize (w.alloc (.cells #[.int .i64 1, .int .u32 a, .int .u32 b] 38)).alloc (.cells #[.int .i64 0, .int .u32 0] 34) = W0 at *
  have s0 := L0.out.lt
  have s1 := L1.out.lt
  have c2 : W0.cell? ⟨w.heap.size, 2, none⟩ = some (.int .u32 b) := L0.out.cell 2
  have hb0 := HB.out.ext XB.out
  have c0 : W0.cell? ⟨gs, 0, none⟩ = some (.slice A n c) := hb0.cell 0
  have h0 := HH.out.ext XB.out
  obtain ⟨A', c', w5, hr, hq, hf, ho⟩ := q_append W0 w0.heap.size (.slice A n c) zs b h0 (X0.out.trans XB.out).size (by rw [HL.out]; exact hn)
  have hg5 := hb0.fr hf HV.out
  have h15 := L1.out.fr hf (fun hq => by have := (HO.out _ hq).2; omega)
  have c5 : w5.cell? ⟨gs, 0, none⟩ = some (.slice A n c) := hg5.cell 0
  have f5 : w5.frozen? ⟨gs, 0, none⟩ = false := hg5.frozen 0
  have t0 : w5.cell? ⟨w.heap.size + 1, 0, none⟩ = some (.int .i64 0) := h15.cell 0
  have t1 : w5.cell? ⟨w.heap.size + 1, 1, none⟩ = some (.int .u32 0) := h15.cell 1
  have g0 : w5.frozen? ⟨w.heap.size + 1, 0, none⟩ = false := h15.frozen 0
  have g1 : w5.frozen? ⟨w.heap.size + 1, 1, none⟩ = false := h15.frozen 1
  rw [HL.out] at hq hr ho
  have HQ := Lib.hid hq
  have HF := Lib.hid hf
  have HOO := Lib.hid ho
  have H15 := Lib.hid h15
  have HG5 := Lib.hid hg5
  have HR := Lib.hid hr
  have hne : ¬ gs = w.heap.size + 1 := by omega
  have hne2 : ¬ w.heap.size + 1 = gs := by omega
  have n0 : ¬ w.heap.size = W0.heap.size := by omega
  have n1 : ¬ gs = W0.heap.size := by omega
  have n2 : gs < W0.heap.size := by omega
  clear hq hf ho h15 hg5 hr h0 hb0
  go_region_law_o (refine step_append_runI rfl _ _ 22 rfl _ _ (by simp [Act.eval]) (by simp [Act.eval]) (HR.out _) ?_)
  all_goals
    go_wp2_with fail
    have XX := Lib.hid (QueOk.store (w := W0) (X0.out.trans XB.out) n2 hgl (fun q hq => (HO.out q hq).1) HV.out HG5.out HQ.out HF.out HOO.out)
    have H8 := Lib.hid (H15.out.far (p := ⟨gs, 0, none⟩) hne2 (.slice A' (n + 1) c'))
    clear HQ HF HOO H15 HG5 HR c5 f5 t0 t1 g0 g1 c0 c2
    generalize w5.setCell ⟨gs, 0, none⟩ (.slice A' (n + 1) c') = W8 at *
    have L5 : Blk ((W8.setCell ⟨w.heap.size + 1, 0, none⟩ (.int .i64 1)).setCell ⟨w.heap.size + 1, 1, none⟩ (.int .u32 0)) (w.heap.size + 1) 34 [.int .i64 1, .int .u32 0] := (H8.out.set 0 (.int .i64 1)).set 1 (.int .u32 0)
    have fr8 : Fr (fun q => q = w.heap.size + 1) W8 ((W8.setCell ⟨w.heap.size + 1, 0, none⟩ (.int .i64 1)).setCell ⟨w.heap.size + 1, 1, none⟩ (.int .u32 0)) := Fr.setCell (p := ⟨w.heap.size + 1, 1, none⟩) (Fr.setCell (p := ⟨w.heap.size + 1, 0, none⟩) (Fr.refl (fun q => q = w.heap.size + 1) W8) (Or.inl rfl) _) (Or.inl rfl) _
    have M8 := XX.out.turn (S := fun q => q = w.heap.size + 1) XB.out fr8 X0.out.size hgs (fun q hq => (HO.out q hq).2) (fun q e => ⟨by omega, Or.inl (by omega)⟩)
    generalize (W8.setCell ⟨w.heap.size + 1, 0, none⟩ (.int .i64 1)).setCell ⟨w.heap.size + 1, 1, none⟩ (.int .u32 0) = W7 at *
    have y0 : W7.cell? ⟨w.heap.size + 1, 0, none⟩ = some (.int .i64 1) := L5.cell 0
    have y1 : W7.cell? ⟨w.heap.size + 1, 1, none⟩ = some (.int .u32 0) := L5.cell 1
    exact bodyPost_ret (v := .agg #[.int .i64 1, .int .u32 0]) (by simp [results, Try.results18, go_sem, y0, y1]) rfl ⟨rfl, _, M8⟩
end Go.Proofs.Ythbngenjcgclgaa
