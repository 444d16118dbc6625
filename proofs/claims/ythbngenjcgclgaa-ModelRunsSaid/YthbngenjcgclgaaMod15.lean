/- Layer 8: pairs put and cut, over whole states; limekilnlaw08.awake. Conditions: those that each theorem names. -/
import Derived.Test.YthbngenjcgclgaaMod14
namespace Go.Proofs.Ythbngenjcgclgaa
open Go.ChangeShapes Go.WideShapes Go.ChangeAt Go.RowKit
set_option linter.unusedVariables false
section
variable {w0 W : World} {gs : Nat} {qv sv mv : Value} {st : Sta}
theorem Own.mlt (h : Own W w0.heap.size gs qv sv mv st) : ∀ q, mv.ownBlock = some q → q < W.heap.size := fun q e => (h.parts.lt q (Or.inr (Or.inr e))).2
theorem do6_there (x : Ext w0 W) (own : Own W w0.heap.size gs qv sv mv st) (hn : st.m.length ≤ 1000000) (a b : Int) (hh : hasP st.m a = true) :
    Calls Try.prog 18 #[.pointer (some ⟨gs, 0, none⟩), .agg #[.int .i64 6, .int .u32 a, .int .u32 b]] W fun e w' => e = .returned (.agg #[.int .i64 3, .int .u32 (findP st.m a).2]) ∧ DidTo w0 W gs qv sv mv ⟨st.q, st.s, st.m⟩ w' :=
  (do6_of w0 W gs qv sv mv st.m a b (findP st.m a).1 (findP st.m a).2 true x own.blk.lt own.mlt (fun W' x' => putP_map (x.trans x') (own.ext x').blk (own.ext x').parts.m hn own.low a b hh)).mono fun e w' ⟨he, hm⟩ => ⟨he, did_map own hm⟩
theorem do6_end (x : Ext w0 W) (own : Own W w0.heap.size gs qv sv mv st) (hn : st.m.length ≤ 1000000) (a b : Int) (hh : hasP st.m a = false) (hi : idxP st.m (PutP a) = -1) :
    Calls Try.prog 18 #[.pointer (some ⟨gs, 0, none⟩), .agg #[.int .i64 6, .int .u32 a, .int .u32 b]] W fun e w' => e = .returned (.agg #[.int .i64 1, .int .u32 0]) ∧ DidTo w0 W gs qv sv mv ⟨st.q, st.s, st.m ++ [(a, b)]⟩ w' :=
  (do6_of w0 W gs qv sv mv (st.m ++ [(a, b)]) a b (findP st.m a).1 (findP st.m a).2 false x own.blk.lt own.mlt (fun W' x' => putP_mapEnd (x.trans x') (own.ext x').blk (own.ext x').parts.m hn own.low a b hh hi)).mono fun e w' ⟨he, hm⟩ => ⟨he, did_map own hm⟩
theorem do8_any (x : Ext w0 W) (own : Own W w0.heap.size gs qv sv mv st) (hn : st.m.length ≤ 1000000) (a b : Int) :
    Calls Try.prog 18 #[.pointer (some ⟨gs, 0, none⟩), .agg #[.int .i64 8, .int .u32 a, .int .u32 b]] W fun e w' => e = .returned (.agg #[.int .i64 (toldK (hasP st.m a) 1 4), .int .u32 (toldK (hasP st.m a) (findP st.m a).2 0)]) ∧ DidTo w0 W gs qv sv mv ⟨st.q, st.s, left (CutP a) st.m⟩ w' :=
  (do8_of w0 W gs qv sv mv (left (CutP a) st.m) a b (findP st.m a).1 (findP st.m a).2 (hasP st.m a) x own.blk.lt own.mlt (fun W' x' => cutP_map (x.trans x') (own.ext x').blk (own.ext x').parts.m hn own.low a)).mono fun e w' ⟨he, hm⟩ => ⟨he, did_map own hm⟩
end
def awSt : Nat → Sta
  | 0 => ⟨[], [], []⟩
  | 1 => ⟨[], [], [(3, 7)]⟩
  | 2 => ⟨[], [], [(3, 7)]⟩
  | _ => ⟨[], [], []⟩
def awRs : Nat → Rs
  | 0 => (1, 0)
  | 1 => (3, 7)
  | _ => (1, 7)
def awOps : List O3 := [(6, 3, 7), (6, 3, 8), (8, 3, 0)]
set_option maxRecDepth 100000 in
set_option maxHeartbeats 1000000 in
theorem awake_run (w : World) (g : Nat) (hb : Blk w g 38 [.int .i64 6, .int .u32 3, .int .u32 7, .int .i64 6, .int .u32 3, .int .u32 8, .int .i64 8, .int .u32 3, .int .u32 0]) :
    Calls Try.prog 8 #[.agg #[.slice none 0 0, .slice none 0 0, .slice none 0 0], .slice (some ⟨g, 0, none⟩) 3 3] w (RunPost w (awSt 3) (upto awRs 3)) := by
  refine run_of w none none none (some ⟨g, 0, none⟩) 0 0 0 0 0 0 3 3 awOps awSt awRs rfl (by omega) ?_ ?_ ?_
  · intro _
    refine ⟨_, rfl, hb.lt, fun i hi => ?_⟩
    have hi' : i < 3 := hi
    match i, hi' with
    | 0, _ => exact ⟨hb.cell 0, hb.cell 1, hb.cell 2⟩
    | 1, _ => exact ⟨hb.cell 3, hb.cell 4, hb.cell 5⟩
    | 2, _ => exact ⟨hb.cell 6, hb.cell 7, hb.cell 8⟩
  · intro W x
    exact (cloned_nil W).mono fun e w' ⟨he, hx⟩ => ⟨_, _, _, he, hx, ⟨QRow.nil _ _, Row.nil _ _ _ _, PRow.nil _ _, fun g h => by cases h⟩⟩
  · intro k hk W gs qv sv mv x own
    match k, hk with
    | 0, _ => exact do6_end (st := awSt 0) x own (by decide) 3 7 rfl rfl
    | 1, _ => exact do6_there (st := awSt 1) x own (by decide) 3 8 rfl
    | 2, _ => exact do8_any (st := awSt 2) x own (by decide) 3 0
set_option maxRecDepth 100000 in
set_option maxHeartbeats 1000000 in
theorem awake_ok (w : World) : Calls Try.prog 7 #[] w fun e w' => e = .returned (.bool true) ∧ Ext w w' := by
  have b0 := Blk.new w 38 [.int .i64 6, .int .u32 3, .int .u32 7, .int .i64 6, .int .u32 3, .int .u32 8, .int .i64 8, .int .u32 3, .int .u32 0]
  have HR := Lib.hid (awake_run _ _ b0)
  have X0 := Lib.hid ((Ext.refl w).alloc (.cells #[.int .i64 6, .int .u32 3, .int .u32 7, .int .i64 6, .int .u32 3, .int .u32 8, .int .i64 8, .int .u32 3, .int .u32 0] 38))
  have t1 := fun a b W => res_yes a b W
  clear b0
  go_enter Try.func7, Try.ntmps7
  go_wp2_with fail
  refine HR.out.mono ?_
  rintro e w1 ⟨B0, B1, B2, R, d0, d1, d2, d, he, _, ra, x1⟩
  have he' : e = .returned (.tuple #[.agg #[.slice B0 0 d0, .slice B1 0 d1, .slice B2 0 d2], .slice R 3 d]) := he
  subst he'
  have X1 := Lib.hid (X0.out.trans x1)
  have ra' : RAt w1 R [(1, 0), (3, 7), (1, 7)] := ra
  obtain ⟨g, rfl, hb, hc⟩ := ra' (by simp)
  have c0 : w1.cell? ⟨g, 0, none⟩ = some (.int .i64 1) := (hc 0 (by simp)).1
  have c1 : w1.cell? ⟨g, 1, none⟩ = some (.int .u32 0) := (hc 0 (by simp)).2
  have c2 : w1.cell? ⟨g, 2, none⟩ = some (.int .i64 3) := (hc 1 (by simp)).1
  have c3 : w1.cell? ⟨g, 3, none⟩ = some (.int .u32 7) := (hc 1 (by simp)).2
  have c4 : w1.cell? ⟨g, 4, none⟩ = some (.int .i64 1) := (hc 2 (by simp)).1
  have c5 : w1.cell? ⟨g, 5, none⟩ = some (.int .u32 7) := (hc 2 (by simp)).2
  have hne : ¬ g = w1.heap.size := by omega
  clear hc ra ra' x1 he
  go_wp2_with fail
  go_ret
  exact ⟨rfl, X1.out.trans (by first | exact (Ext.refl _).alloc _ | exact ((Ext.refl _).alloc _).drew | exact extN _ _)⟩
end Go.Proofs.Ythbngenjcgclgaa
