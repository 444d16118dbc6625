/- The machines of package epoch behind one another's names: made, asked whether they are done, and stepped. Conditions: those that each theorem names. -/
import Derived.Test.YtfbobdkfibhcnaaEpH1
import Derived.Deep.MidRow
import Derived.Laws.ResultCell
namespace Go.Proofs.Ytfbobdkfibhcnaa
open Go.ChangeShapes Go.WideShapes Go.ChangeAt Go.RowKit
set_option linter.unusedVariables false
theorem cell_ext {w w' : World} {p : Addr} {v : Value} (h : w.cell? p = some v) (x : Ext w w') : w'.cell? p = some v := (World.cell?_of_block (x.block p.block (World.block_lt_of_cell? w p h))).trans h
theorem results_made {P : Program} {fn : Func} {p u : Tmp} {ty : TypeId} (h : fn.results = #[.cell p ty, .tmp u]) (tmps : Array Value) (w : World) (g : Nat) (t : TypeId) (cs : Array Value) (fr : Nat × Nat) (d : TypeDesc)
    (hp : tmps.getD p undef = .pointer (some ⟨g, 0, none⟩)) (hg : w.heap[g]? = some (.cells cs t fr)) (hu : P.underlying ty = some d) (hd : (match d with | .struct _ | .array _ _ => true | _ => false) = true) (hi : (P.info? ty).map (·.size) = some cs.size) :
    (results fn tmps).run P w = .ok (.tuple #[.agg cs, tmps.getD u undef]) w := by
  rw [results_cell_tmp h, hp]
  simp [asAddr, run_loadVar_row w g t ty cs fr d hg hu hd hi, Result.andThen]
def newMc (kd : Int) (g : Nat) : Mc := if kd = 0 then .ent g (false, false, 0) else if kd = 1 then .lea g false else .adv g ⟨false, false, 0, 0, false⟩
/-- What a machine that is made has. -/
structure Made (w : World) (gl : Nat) (t s l b kd tn : Int) (w' : World) (g gr : Nat) : Prop where
  g0 : w.heap.size ≤ g
  r0 : w.heap.size ≤ gr
  ne : g ≠ gr
  own : ∃ T cs, (newMc kd g).own gl tn = some (g, T, cs) ∧ Blk w' g T cs
  r : Blk w' gr 133 [.int .i64 t, .int .i64 s, .int .i64 l, .int .i64 b, .int .i64 tn, .int .i64 kd, .int .i64 1, .int .u64 0, .bool false]
  x : Ext w w'
def MadeP (w : World) (gl : Nat) (t s l b kd tn : Int) (e : Ending) (w' : World) : Prop := ∃ g gr, e = .returned (.tuple #[.agg #[.pointer (newMc kd g).pE, .pointer (newMc kd g).pL, .pointer (newMc kd g).pA], .pointer (some ⟨gr, 0, none⟩)]) ∧ Made w gl t s l b kd tn w' g gr
set_option maxRecDepth 100000 in
set_option maxHeartbeats 4000000 in
theorem made_0 (w : World) (gl : Nat) (t s l b kd tn : Int) (hk : kd = 0) :
    Calls Try.prog 33 #[.pointer (some ⟨gl, 0, none⟩), .agg #[.int .i64 t, .int .i64 s, .int .i64 l, .int .i64 b], .int .i64 kd, .int .i64 tn] w (MadeP w gl t s l b kd tn) := by
  subst hk
  have x1 := (Ext.refl w).alloc (.cells #[.int .i64 t, .int .i64 s, .int .i64 l, .int .i64 b] 23)
  have bc := Blk.new w 23 [.int .i64 t, .int .i64 s, .int .i64 l, .int .i64 b]
  have x2 := x1.alloc (.cells #[.pointer none, .pointer none, .pointer none] 68)
  have bm := Blk.new (w.alloc (.cells #[.int .i64 t, .int .i64 s, .int .i64 l, .int .i64 b] 23)) 68 [.pointer none, .pointer none, .pointer none]
  have bc2 := bc.ext ((Ext.refl _).alloc (.cells #[.pointer none, .pointer none, .pointer none] 68))
  simp only [World.size_alloc] at bm
  go_enter Try.func33, Try.ntmps33
  go_upto_region 1 with fail
  generalize (w.alloc (.cells #[.int .i64 t, .int .i64 s, .int .i64 l, .int .i64 b] 23)).alloc (.cells #[.pointer none, .pointer none, .pointer none] 68) = w2 at *
  have y0 : w2.cell? ⟨w.heap.size, 0, none⟩ = some (.int .i64 t) := bc2.cell 0
  have y1 : w2.cell? ⟨w.heap.size, 1, none⟩ = some (.int .i64 s) := bc2.cell 1
  have y2 : w2.cell? ⟨w.heap.size, 2, none⟩ = some (.int .i64 l) := bc2.cell 2
  have y3 : w2.cell? ⟨w.heap.size, 3, none⟩ = some (.int .i64 b) := bc2.cell 3
  go_upto_region 2 with fail
  have x3 := (Ext.refl w2).alloc (.cells #[.int .i64 t, .int .i64 s, .int .i64 l, .int .i64 b, .int .i64 tn, .int .i64 0, .int .i64 1, .int .u64 0, .bool false] 133)
  have br := Blk.new w2 133 [.int .i64 t, .int .i64 s, .int .i64 l, .int .i64 b, .int .i64 tn, .int .i64 0, .int .i64 1, .int .u64 0, .bool false]
  have bm3 := bm.ext x3
  have hs2 := x2.size
  have hms := bm.lt
  generalize w2.alloc (.cells #[.int .i64 t, .int .i64 s, .int .i64 l, .int .i64 b, .int .i64 tn, .int .i64 0, .int .i64 1, .int .u64 0, .bool false] 133) = w3 at *
  have X3 := Lib.hid (x2.trans x3)
  have BR := Lib.hid br
  have BM := Lib.hid bm3
  have HS := Lib.hid (show w.heap.size ≤ w2.heap.size ∧ w.heap.size + 1 < w2.heap.size from ⟨hs2, hms⟩)
  clear x1 bc x2 bm bc2 x3 br bm3 hs2 hms y0 y1 y2 y3
  generalize w2.heap.size = gr at *
  go_wp2_with fail
  refine (newEnter_ok w3 gl tn).mono ?_
  rintro e w4 ⟨g, rfl, lg, bg, x4⟩
  have hb4 := BM.out.ext x4
  have HTh : Hid (w4.there (w.heap.size + 1) 0 3) := Lib.hid (fun j hj => ⟨by
    have h := hb4.cell (0 + j)
    rw [h]
    have hj3 : j = 0 ∨ j = 1 ∨ j = 2 := by omega
    rcases hj3 with rfl | rfl | rfl <;> rfl, hb4.frozen _⟩)
  have hr3 := BR.out.lt
  have m1 := ((hb4.set 0 (.pointer (some ⟨g, 0, none⟩))).set 1 (.pointer none)).set 2 (.pointer none)
  have x5 : Ext w (((w4.setCell ⟨w.heap.size + 1, 0, none⟩ (.pointer (some ⟨g, 0, none⟩))).setCell ⟨w.heap.size + 1, 1, none⟩ (.pointer none)).setCell ⟨w.heap.size + 1, 2, none⟩ (.pointer none)) := (((X3.out.trans x4).setCell (p := ⟨w.heap.size + 1, 0, none⟩) (by show w.heap.size ≤ w.heap.size + 1; omega) _).setCell (p := ⟨w.heap.size + 1, 1, none⟩) (by show w.heap.size ≤ w.heap.size + 1; omega) _).setCell (p := ⟨w.heap.size + 1, 2, none⟩) (by show w.heap.size ≤ w.heap.size + 1; omega) _
  have hne1 : g ≠ w.heap.size + 1 := by have := HS.out.2; omega
  have hne2 : gr ≠ w.heap.size + 1 := by have := HS.out.2; omega
  have MD : Hid (Made w gl t s l b 0 tn (((w4.setCell ⟨w.heap.size + 1, 0, none⟩ (.pointer (some ⟨g, 0, none⟩))).setCell ⟨w.heap.size + 1, 1, none⟩ (.pointer none)).setCell ⟨w.heap.size + 1, 2, none⟩ (.pointer none)) g gr) := Lib.hid
    ⟨by have := HS.out.1; omega, HS.out.1, by omega, ⟨164, [.pointer (some ⟨gl, 0, none⟩), .int .i64 tn, .bool false, .bool false, .int .u64 0], by rw [show newMc 0 g = .ent g (false, false, 0) from rfl]; rfl, ((bg.far (p := ⟨w.heap.size + 1, 0, none⟩) hne1 _).far (p := ⟨w.heap.size + 1, 1, none⟩) hne1 _).far (p := ⟨w.heap.size + 1, 2, none⟩) hne1 _⟩,
      (((BR.out.ext x4).far (p := ⟨w.heap.size + 1, 0, none⟩) hne2 _).far (p := ⟨w.heap.size + 1, 1, none⟩) hne2 _).far (p := ⟨w.heap.size + 1, 2, none⟩) hne2 _, x5⟩
  have M1 := Lib.hid m1
  clear hb4 m1 x5 lg bg x4 hne1 hne2 hr3
  go_wp2_with ((with_reducible refine (id ?_ : wpList _ _ _ ({ dst := none, op := Op.store _ _ _, type := _, pos := _, after := _, guard := _ } :: _) _ _)); refine Hid.out ?_)
  refine Lib.hid ?_
  refine wpList_store_mid rfl _ (.tmp 8) (.tmp 21) rfl (w.heap.size + 1) 0 #[.pointer (some ⟨g, 0, none⟩), .pointer none, .pointer none] (by rfl) (by rfl) HTh.out (by kernel_rfl) (by simp [Value.oneCell']) ?_
  go_wp2_with fail
  (try simp only [Exit.inBlock, Exit.then])
  refine bodyPost_ret (results_made rfl _ _ (w.heap.size + 1) 68 #[.pointer (some ⟨g, 0, none⟩), .pointer none, .pointer none] (0, 0) _ (by rfl) M1.out Try.underlying68 rfl (by kernel_rfl)) rfl ?_
  refine ⟨g, gr, ?_, MD.out⟩
  rw [show newMc 0 g = .ent g (false, false, 0) from rfl]
  rfl
set_option maxRecDepth 100000 in
set_option maxHeartbeats 4000000 in
theorem made_1 (w : World) (gl : Nat) (t s l b kd tn : Int) (hk : kd = 1) :
    Calls Try.prog 33 #[.pointer (some ⟨gl, 0, none⟩), .agg #[.int .i64 t, .int .i64 s, .int .i64 l, .int .i64 b], .int .i64 kd, .int .i64 tn] w (MadeP w gl t s l b kd tn) := by
  subst hk
  have x1 := (Ext.refl w).alloc (.cells #[.int .i64 t, .int .i64 s, .int .i64 l, .int .i64 b] 23)
  have bc := Blk.new w 23 [.int .i64 t, .int .i64 s, .int .i64 l, .int .i64 b]
  have x2 := x1.alloc (.cells #[.pointer none, .pointer none, .pointer none] 68)
  have bm := Blk.new (w.alloc (.cells #[.int .i64 t, .int .i64 s, .int .i64 l, .int .i64 b] 23)) 68 [.pointer none, .pointer none, .pointer none]
  have bc2 := bc.ext ((Ext.refl _).alloc (.cells #[.pointer none, .pointer none, .pointer none] 68))
  simp only [World.size_alloc] at bm
  go_enter Try.func33, Try.ntmps33
  go_upto_region 1 with fail
  generalize (w.alloc (.cells #[.int .i64 t, .int .i64 s, .int .i64 l, .int .i64 b] 23)).alloc (.cells #[.pointer none, .pointer none, .pointer none] 68) = w2 at *
  have y0 : w2.cell? ⟨w.heap.size, 0, none⟩ = some (.int .i64 t) := bc2.cell 0
  have y1 : w2.cell? ⟨w.heap.size, 1, none⟩ = some (.int .i64 s) := bc2.cell 1
  have y2 : w2.cell? ⟨w.heap.size, 2, none⟩ = some (.int .i64 l) := bc2.cell 2
  have y3 : w2.cell? ⟨w.heap.size, 3, none⟩ = some (.int .i64 b) := bc2.cell 3
  go_upto_region 2 with fail
  have x3 := (Ext.refl w2).alloc (.cells #[.int .i64 t, .int .i64 s, .int .i64 l, .int .i64 b, .int .i64 tn, .int .i64 1, .int .i64 1, .int .u64 0, .bool false] 133)
  have br := Blk.new w2 133 [.int .i64 t, .int .i64 s, .int .i64 l, .int .i64 b, .int .i64 tn, .int .i64 1, .int .i64 1, .int .u64 0, .bool false]
  have bm3 := bm.ext x3
  have hs2 := x2.size
  have hms := bm.lt
  generalize w2.alloc (.cells #[.int .i64 t, .int .i64 s, .int .i64 l, .int .i64 b, .int .i64 tn, .int .i64 1, .int .i64 1, .int .u64 0, .bool false] 133) = w3 at *
  have X3 := Lib.hid (x2.trans x3)
  have BR := Lib.hid br
  have BM := Lib.hid bm3
  have HS := Lib.hid (show w.heap.size ≤ w2.heap.size ∧ w.heap.size + 1 < w2.heap.size from ⟨hs2, hms⟩)
  clear x1 bc x2 bm bc2 x3 br bm3 hs2 hms y0 y1 y2 y3
  generalize w2.heap.size = gr at *
  go_wp2_with fail
  refine (newLeave_ok w3 gl tn).mono ?_
  rintro e w4 ⟨g, rfl, lg, bg, x4⟩
  have hb4 := BM.out.ext x4
  have HTh : Hid (w4.there (w.heap.size + 1) 0 3) := Lib.hid (fun j hj => ⟨by
    have h := hb4.cell (0 + j)
    rw [h]
    have hj3 : j = 0 ∨ j = 1 ∨ j = 2 := by omega
    rcases hj3 with rfl | rfl | rfl <;> rfl, hb4.frozen _⟩)
  have hr3 := BR.out.lt
  have m1 := ((hb4.set 0 (.pointer none)).set 1 (.pointer (some ⟨g, 0, none⟩))).set 2 (.pointer none)
  have x5 : Ext w (((w4.setCell ⟨w.heap.size + 1, 0, none⟩ (.pointer none)).setCell ⟨w.heap.size + 1, 1, none⟩ (.pointer (some ⟨g, 0, none⟩))).setCell ⟨w.heap.size + 1, 2, none⟩ (.pointer none)) := (((X3.out.trans x4).setCell (p := ⟨w.heap.size + 1, 0, none⟩) (by show w.heap.size ≤ w.heap.size + 1; omega) _).setCell (p := ⟨w.heap.size + 1, 1, none⟩) (by show w.heap.size ≤ w.heap.size + 1; omega) _).setCell (p := ⟨w.heap.size + 1, 2, none⟩) (by show w.heap.size ≤ w.heap.size + 1; omega) _
  have hne1 : g ≠ w.heap.size + 1 := by have := HS.out.2; omega
  have hne2 : gr ≠ w.heap.size + 1 := by have := HS.out.2; omega
  have MD : Hid (Made w gl t s l b 1 tn (((w4.setCell ⟨w.heap.size + 1, 0, none⟩ (.pointer none)).setCell ⟨w.heap.size + 1, 1, none⟩ (.pointer (some ⟨g, 0, none⟩))).setCell ⟨w.heap.size + 1, 2, none⟩ (.pointer none)) g gr) := Lib.hid
    ⟨by have := HS.out.1; omega, HS.out.1, by omega, ⟨172, [.pointer (some ⟨gl, 0, none⟩), .int .i64 tn, .bool false], by rw [show newMc 1 g = .lea g false from rfl]; rfl, ((bg.far (p := ⟨w.heap.size + 1, 0, none⟩) hne1 _).far (p := ⟨w.heap.size + 1, 1, none⟩) hne1 _).far (p := ⟨w.heap.size + 1, 2, none⟩) hne1 _⟩,
      (((BR.out.ext x4).far (p := ⟨w.heap.size + 1, 0, none⟩) hne2 _).far (p := ⟨w.heap.size + 1, 1, none⟩) hne2 _).far (p := ⟨w.heap.size + 1, 2, none⟩) hne2 _, x5⟩
  have M1 := Lib.hid m1
  clear hb4 m1 x5 lg bg x4 hne1 hne2 hr3
  go_wp2_with ((with_reducible refine (id ?_ : wpList _ _ _ ({ dst := none, op := Op.store _ _ _, type := _, pos := _, after := _, guard := _ } :: _) _ _)); refine Hid.out ?_)
  refine Lib.hid ?_
  refine wpList_store_mid rfl _ (.tmp 8) (.tmp 28) rfl (w.heap.size + 1) 0 #[.pointer none, .pointer (some ⟨g, 0, none⟩), .pointer none] (by rfl) (by rfl) HTh.out (by kernel_rfl) (by simp [Value.oneCell']) ?_
  go_wp2_with fail
  (try simp only [Exit.inBlock, Exit.then])
  refine bodyPost_ret (results_made rfl _ _ (w.heap.size + 1) 68 #[.pointer none, .pointer (some ⟨g, 0, none⟩), .pointer none] (0, 0) _ (by rfl) M1.out Try.underlying68 rfl (by kernel_rfl)) rfl ?_
  refine ⟨g, gr, ?_, MD.out⟩
  rw [show newMc 1 g = .lea g false from rfl]
  rfl
set_option maxRecDepth 100000 in
set_option maxHeartbeats 4000000 in
theorem made_2 (w : World) (gl : Nat) (t s l b kd tn : Int) (hk : kd ≠ 0) (hk1 : kd ≠ 1) :
    Calls Try.prog 33 #[.pointer (some ⟨gl, 0, none⟩), .agg #[.int .i64 t, .int .i64 s, .int .i64 l, .int .i64 b], .int .i64 kd, .int .i64 tn] w (MadeP w gl t s l b kd tn) := by
  have d0 : (kd == 0) = false := by rw [beq_eq_false_iff_ne]; exact hk
  have d1 : (kd == 1) = false := by rw [beq_eq_false_iff_ne]; exact hk1
  have e0 : decide (kd = 0) = false := by simpa using hk
  have e1 : decide (kd = 1) = false := by simpa using hk1
  have x1 := (Ext.refl w).alloc (.cells #[.int .i64 t, .int .i64 s, .int .i64 l, .int .i64 b] 23)
  have bc := Blk.new w 23 [.int .i64 t, .int .i64 s, .int .i64 l, .int .i64 b]
  have x2 := x1.alloc (.cells #[.pointer none, .pointer none, .pointer none] 68)
  have bm := Blk.new (w.alloc (.cells #[.int .i64 t, .int .i64 s, .int .i64 l, .int .i64 b] 23)) 68 [.pointer none, .pointer none, .pointer none]
  have bc2 := bc.ext ((Ext.refl _).alloc (.cells #[.pointer none, .pointer none, .pointer none] 68))
  simp only [World.size_alloc] at bm
  go_enter Try.func33, Try.ntmps33
  go_upto_region 1 with fail
  generalize (w.alloc (.cells #[.int .i64 t, .int .i64 s, .int .i64 l, .int .i64 b] 23)).alloc (.cells #[.pointer none, .pointer none, .pointer none] 68) = w2 at *
  have y0 : w2.cell? ⟨w.heap.size, 0, none⟩ = some (.int .i64 t) := bc2.cell 0
  have y1 : w2.cell? ⟨w.heap.size, 1, none⟩ = some (.int .i64 s) := bc2.cell 1
  have y2 : w2.cell? ⟨w.heap.size, 2, none⟩ = some (.int .i64 l) := bc2.cell 2
  have y3 : w2.cell? ⟨w.heap.size, 3, none⟩ = some (.int .i64 b) := bc2.cell 3
  go_upto_region 2 with fail
  have x3 := (Ext.refl w2).alloc (.cells #[.int .i64 t, .int .i64 s, .int .i64 l, .int .i64 b, .int .i64 tn, .int .i64 kd, .int .i64 1, .int .u64 0, .bool false] 133)
  have br := Blk.new w2 133 [.int .i64 t, .int .i64 s, .int .i64 l, .int .i64 b, .int .i64 tn, .int .i64 kd, .int .i64 1, .int .u64 0, .bool false]
  have bm3 := bm.ext x3
  have hs2 := x2.size
  have hms := bm.lt
  generalize w2.alloc (.cells #[.int .i64 t, .int .i64 s, .int .i64 l, .int .i64 b, .int .i64 tn, .int .i64 kd, .int .i64 1, .int .u64 0, .bool false] 133) = w3 at *
  have X3 := Lib.hid (x2.trans x3)
  have BR := Lib.hid br
  have BM := Lib.hid bm3
  have HS := Lib.hid (show w.heap.size ≤ w2.heap.size ∧ w.heap.size + 1 < w2.heap.size from ⟨hs2, hms⟩)
  clear x1 bc x2 bm bc2 x3 br bm3 hs2 hms y0 y1 y2 y3
  generalize w2.heap.size = gr at *
  go_wp2_with fail
  refine (newAdvance_ok w3 gl tn).mono ?_
  rintro e w4 ⟨g, rfl, lg, bg, x4⟩
  have hb4 := BM.out.ext x4
  have HTh : Hid (w4.there (w.heap.size + 1) 0 3) := Lib.hid (fun j hj => ⟨by
    have h := hb4.cell (0 + j)
    rw [h]
    have hj3 : j = 0 ∨ j = 1 ∨ j = 2 := by omega
    rcases hj3 with rfl | rfl | rfl <;> rfl, hb4.frozen _⟩)
  have hr3 := BR.out.lt
  have m1 := ((hb4.set 0 (.pointer none)).set 1 (.pointer none)).set 2 (.pointer (some ⟨g, 0, none⟩))
  have x5 : Ext w (((w4.setCell ⟨w.heap.size + 1, 0, none⟩ (.pointer none)).setCell ⟨w.heap.size + 1, 1, none⟩ (.pointer none)).setCell ⟨w.heap.size + 1, 2, none⟩ (.pointer (some ⟨g, 0, none⟩))) := (((X3.out.trans x4).setCell (p := ⟨w.heap.size + 1, 0, none⟩) (by show w.heap.size ≤ w.heap.size + 1; omega) _).setCell (p := ⟨w.heap.size + 1, 1, none⟩) (by show w.heap.size ≤ w.heap.size + 1; omega) _).setCell (p := ⟨w.heap.size + 1, 2, none⟩) (by show w.heap.size ≤ w.heap.size + 1; omega) _
  have hne1 : g ≠ w.heap.size + 1 := by have := HS.out.2; omega
  have hne2 : gr ≠ w.heap.size + 1 := by have := HS.out.2; omega
  have MD : Hid (Made w gl t s l b kd tn (((w4.setCell ⟨w.heap.size + 1, 0, none⟩ (.pointer none)).setCell ⟨w.heap.size + 1, 1, none⟩ (.pointer none)).setCell ⟨w.heap.size + 1, 2, none⟩ (.pointer (some ⟨g, 0, none⟩))) g gr) := Lib.hid
    ⟨by have := HS.out.1; omega, HS.out.1, by omega, ⟨126, (acells gl tn false false 0 0 false), by rw [show newMc kd g = .adv g ⟨false, false, 0, 0, false⟩ from by unfold newMc; rw [if_neg hk, if_neg hk1]]; rfl, ((bg.far (p := ⟨w.heap.size + 1, 0, none⟩) hne1 _).far (p := ⟨w.heap.size + 1, 1, none⟩) hne1 _).far (p := ⟨w.heap.size + 1, 2, none⟩) hne1 _⟩,
      (((BR.out.ext x4).far (p := ⟨w.heap.size + 1, 0, none⟩) hne2 _).far (p := ⟨w.heap.size + 1, 1, none⟩) hne2 _).far (p := ⟨w.heap.size + 1, 2, none⟩) hne2 _, x5⟩
  have M1 := Lib.hid m1
  clear hb4 m1 x5 lg bg x4 hne1 hne2 hr3
  go_wp2_with ((with_reducible refine (id ?_ : wpList _ _ _ ({ dst := none, op := Op.store _ _ _, type := _, pos := _, after := _, guard := _ } :: _) _ _)); refine Hid.out ?_)
  refine Lib.hid ?_
  refine wpList_store_mid rfl _ (.tmp 8) (.tmp 33) rfl (w.heap.size + 1) 0 #[.pointer none, .pointer none, .pointer (some ⟨g, 0, none⟩)] (by rfl) (by rfl) HTh.out (by kernel_rfl) (by simp [Value.oneCell']) ?_
  go_wp2_with fail
  (try simp only [Exit.inBlock, Exit.then])
  refine bodyPost_ret (results_made rfl _ _ (w.heap.size + 1) 68 #[.pointer none, .pointer none, .pointer (some ⟨g, 0, none⟩)] (0, 0) _ (by rfl) M1.out Try.underlying68 rfl (by kernel_rfl)) rfl ?_
  refine ⟨g, gr, ?_, MD.out⟩
  rw [show newMc kd g = .adv g ⟨false, false, 0, 0, false⟩ from by unfold newMc; rw [if_neg hk, if_neg hk1]]
  rfl
theorem made_ok (w : World) (gl : Nat) (t s l b kd tn : Int) :
    Calls Try.prog 33 #[.pointer (some ⟨gl, 0, none⟩), .agg #[.int .i64 t, .int .i64 s, .int .i64 l, .int .i64 b], .int .i64 kd, .int .i64 tn] w (MadeP w gl t s l b kd tn) := by
  by_cases h0 : kd = 0
  · subst h0
    exact made_0 w gl t s l b 0 tn rfl
  by_cases h1 : kd = 1
  · subst h1
    exact made_1 w gl t s l b 1 tn rfl
  exact made_2 w gl t s l b kd tn h0 h1
/-- Whether it is done. -/
def Mc.At (m : Mc) (w : World) : Prop :=
  match m with
  | .non => True
  | .ent g x => w.cell? ⟨g, 2, none⟩ = some (.bool x.1)
  | .lea g d => w.cell? ⟨g, 2, none⟩ = some (.bool d)
  | .adv g x => w.cell? ⟨g, 2, none⟩ = some (.bool x.dn)
set_option maxRecDepth 100000 in
set_option maxHeartbeats 2000000 in
theorem mdone_non (w : World)  : Calls Try.prog 32 #[.agg #[.pointer none, .pointer none, .pointer none]] w fun e w' => e = .returned (.bool true) ∧ Ext w w' := by
  have x0 := (Ext.refl w).alloc (.cells #[.pointer none, .pointer none, .pointer none] 68)
  have b0 := Blk.new w 68 [.pointer none, .pointer none, .pointer none]
  go_enter Try.func32, Try.ntmps32
  go_upto_region 1 with fail
  have X0 := Lib.hid x0
  have HCC := Lib.hid (fun W (x : Ext (w.alloc (.cells #[.pointer none, .pointer none, .pointer none] 68)) W) => (show W.cell? ⟨w.heap.size, 0, none⟩ = some (.pointer none) ∧ W.cell? ⟨w.heap.size, 1, none⟩ = some (.pointer none) ∧ W.cell? ⟨w.heap.size, 2, none⟩ = some (.pointer none) from ⟨(b0.ext x).cell 0, (b0.ext x).cell 1, (b0.ext x).cell 2⟩))
  generalize w.alloc (.cells #[.pointer none, .pointer none, .pointer none] 68) = w1 at *
  obtain ⟨c0, c1, c2⟩ := HCC.out w1 (Ext.refl _)
  clear x0 b0
  go_wp2_with fail
  refine (doneEnter_nil _).mono ?_
  rintro e w' ⟨rfl, rfl⟩
  go_wp2_with fail
  refine (doneLeave_nil _).mono ?_
  rintro e w' ⟨rfl, rfl⟩
  go_wp2_with fail
  refine (doneAdvance_nil _).mono ?_
  rintro e w' ⟨rfl, rfl⟩
  go_wp2_with fail
  go_ret
  exact ⟨rfl, X0.out⟩
set_option maxRecDepth 100000 in
set_option maxHeartbeats 2000000 in
theorem mdone_ent (w : World) (g : Nat) (d : Bool) (h : w.cell? ⟨g, 2, none⟩ = some (.bool d)) : Calls Try.prog 32 #[.agg #[.pointer (some ⟨g, 0, none⟩), .pointer none, .pointer none]] w fun e w' => e = .returned (.bool d) ∧ Ext w w' := by
  have x0 := (Ext.refl w).alloc (.cells #[.pointer (some ⟨g, 0, none⟩), .pointer none, .pointer none] 68)
  have b0 := Blk.new w 68 [.pointer (some ⟨g, 0, none⟩), .pointer none, .pointer none]
  have h1 : ∀ W, Ext (w.alloc (.cells #[.pointer (some ⟨g, 0, none⟩), .pointer none, .pointer none] 68)) W → W.cell? ⟨g, 2, none⟩ = some (.bool d) := fun W x => cell_ext h (x0.trans x)
  go_enter Try.func32, Try.ntmps32
  go_upto_region 1 with fail
  have X0 := Lib.hid x0
  have HCC := Lib.hid (fun W (x : Ext (w.alloc (.cells #[.pointer (some ⟨g, 0, none⟩), .pointer none, .pointer none] 68)) W) => (show W.cell? ⟨w.heap.size, 0, none⟩ = some (.pointer (some ⟨g, 0, none⟩)) ∧ W.cell? ⟨w.heap.size, 1, none⟩ = some (.pointer none) ∧ W.cell? ⟨w.heap.size, 2, none⟩ = some (.pointer none) from ⟨(b0.ext x).cell 0, (b0.ext x).cell 1, (b0.ext x).cell 2⟩))
  generalize w.alloc (.cells #[.pointer (some ⟨g, 0, none⟩), .pointer none, .pointer none] 68) = w1 at *
  obtain ⟨c0, c1, c2⟩ := HCC.out w1 (Ext.refl _)
  clear x0 b0
  cases d
  · go_wp2_with fail
    refine (doneEnter_ok _ g _ (h1 _ (Ext.refl _))).mono ?_
    rintro e w' ⟨rfl, rfl⟩
    go_wp2_with fail
    go_ret
    exact ⟨rfl, X0.out⟩
  · go_wp2_with fail
    refine (doneEnter_ok _ g _ (h1 _ (Ext.refl _))).mono ?_
    rintro e w' ⟨rfl, rfl⟩
    go_wp2_with fail
    refine (doneLeave_nil _).mono ?_
    rintro e w' ⟨rfl, rfl⟩
    go_wp2_with fail
    refine (doneAdvance_nil _).mono ?_
    rintro e w' ⟨rfl, rfl⟩
    go_wp2_with fail
    go_ret
    exact ⟨rfl, X0.out⟩
set_option maxRecDepth 100000 in
set_option maxHeartbeats 2000000 in
theorem mdone_lea (w : World) (g : Nat) (d : Bool) (h : w.cell? ⟨g, 2, none⟩ = some (.bool d)) : Calls Try.prog 32 #[.agg #[.pointer none, .pointer (some ⟨g, 0, none⟩), .pointer none]] w fun e w' => e = .returned (.bool d) ∧ Ext w w' := by
  have x0 := (Ext.refl w).alloc (.cells #[.pointer none, .pointer (some ⟨g, 0, none⟩), .pointer none] 68)
  have b0 := Blk.new w 68 [.pointer none, .pointer (some ⟨g, 0, none⟩), .pointer none]
  have h1 : ∀ W, Ext (w.alloc (.cells #[.pointer none, .pointer (some ⟨g, 0, none⟩), .pointer none] 68)) W → W.cell? ⟨g, 2, none⟩ = some (.bool d) := fun W x => cell_ext h (x0.trans x)
  go_enter Try.func32, Try.ntmps32
  go_upto_region 1 with fail
  have X0 := Lib.hid x0
  have HCC := Lib.hid (fun W (x : Ext (w.alloc (.cells #[.pointer none, .pointer (some ⟨g, 0, none⟩), .pointer none] 68)) W) => (show W.cell? ⟨w.heap.size, 0, none⟩ = some (.pointer none) ∧ W.cell? ⟨w.heap.size, 1, none⟩ = some (.pointer (some ⟨g, 0, none⟩)) ∧ W.cell? ⟨w.heap.size, 2, none⟩ = some (.pointer none) from ⟨(b0.ext x).cell 0, (b0.ext x).cell 1, (b0.ext x).cell 2⟩))
  generalize w.alloc (.cells #[.pointer none, .pointer (some ⟨g, 0, none⟩), .pointer none] 68) = w1 at *
  obtain ⟨c0, c1, c2⟩ := HCC.out w1 (Ext.refl _)
  clear x0 b0
  cases d
  · go_wp2_with fail
    refine (doneEnter_nil _).mono ?_
    rintro e w' ⟨rfl, rfl⟩
    go_wp2_with fail
    refine (doneLeave_ok _ g _ (h1 _ (Ext.refl _))).mono ?_
    rintro e w' ⟨rfl, rfl⟩
    go_wp2_with fail
    go_ret
    exact ⟨rfl, X0.out⟩
  · go_wp2_with fail
    refine (doneEnter_nil _).mono ?_
    rintro e w' ⟨rfl, rfl⟩
    go_wp2_with fail
    refine (doneLeave_ok _ g _ (h1 _ (Ext.refl _))).mono ?_
    rintro e w' ⟨rfl, rfl⟩
    go_wp2_with fail
    refine (doneAdvance_nil _).mono ?_
    rintro e w' ⟨rfl, rfl⟩
    go_wp2_with fail
    go_ret
    exact ⟨rfl, X0.out⟩
set_option maxRecDepth 100000 in
set_option maxHeartbeats 2000000 in
theorem mdone_adv (w : World) (g : Nat) (d : Bool) (h : w.cell? ⟨g, 2, none⟩ = some (.bool d)) : Calls Try.prog 32 #[.agg #[.pointer none, .pointer none, .pointer (some ⟨g, 0, none⟩)]] w fun e w' => e = .returned (.bool d) ∧ Ext w w' := by
  have x0 := (Ext.refl w).alloc (.cells #[.pointer none, .pointer none, .pointer (some ⟨g, 0, none⟩)] 68)
  have b0 := Blk.new w 68 [.pointer none, .pointer none, .pointer (some ⟨g, 0, none⟩)]
  have h1 : ∀ W, Ext (w.alloc (.cells #[.pointer none, .pointer none, .pointer (some ⟨g, 0, none⟩)] 68)) W → W.cell? ⟨g, 2, none⟩ = some (.bool d) := fun W x => cell_ext h (x0.trans x)
  go_enter Try.func32, Try.ntmps32
  go_upto_region 1 with fail
  have X0 := Lib.hid x0
  have HCC := Lib.hid (fun W (x : Ext (w.alloc (.cells #[.pointer none, .pointer none, .pointer (some ⟨g, 0, none⟩)] 68)) W) => (show W.cell? ⟨w.heap.size, 0, none⟩ = some (.pointer none) ∧ W.cell? ⟨w.heap.size, 1, none⟩ = some (.pointer none) ∧ W.cell? ⟨w.heap.size, 2, none⟩ = some (.pointer (some ⟨g, 0, none⟩)) from ⟨(b0.ext x).cell 0, (b0.ext x).cell 1, (b0.ext x).cell 2⟩))
  generalize w.alloc (.cells #[.pointer none, .pointer none, .pointer (some ⟨g, 0, none⟩)] 68) = w1 at *
  obtain ⟨c0, c1, c2⟩ := HCC.out w1 (Ext.refl _)
  clear x0 b0
  cases d
  · go_wp2_with fail
    refine (doneEnter_nil _).mono ?_
    rintro e w' ⟨rfl, rfl⟩
    go_wp2_with fail
    refine (doneLeave_nil _).mono ?_
    rintro e w' ⟨rfl, rfl⟩
    go_wp2_with fail
    refine (doneAdvance_ok _ g _ (h1 _ (Ext.refl _))).mono ?_
    rintro e w' ⟨rfl, rfl⟩
    go_wp2_with fail
    go_ret
    exact ⟨rfl, X0.out⟩
  · go_wp2_with fail
    refine (doneEnter_nil _).mono ?_
    rintro e w' ⟨rfl, rfl⟩
    go_wp2_with fail
    refine (doneLeave_nil _).mono ?_
    rintro e w' ⟨rfl, rfl⟩
    go_wp2_with fail
    refine (doneAdvance_ok _ g _ (h1 _ (Ext.refl _))).mono ?_
    rintro e w' ⟨rfl, rfl⟩
    go_wp2_with fail
    go_ret
    exact ⟨rfl, X0.out⟩
theorem mdone_ok (w : World) (m : Mc) (h : m.At w) :
    Calls Try.prog 32 #[.agg #[.pointer m.pE, .pointer m.pL, .pointer m.pA]] w fun e w' => e = .returned (.bool m.dn) ∧ Ext w w' := by
  cases m with
  | non => exact mdone_non w
  | ent g x => exact mdone_ent w g x.1 h
  | lea g d => exact mdone_lea w g d h
  | adv g x => exact mdone_adv w g x.dn h
section
variable {Q : Nat → Prop} {w0 w : World} {gm gp gl T : Nat} {dv pv : Value} {s : MSt} {F : Nat → Int} {t : Int}
set_option maxRecDepth 100000 in
set_option maxHeartbeats 2000000 in
theorem mstep_ent {x : EMs} (h : IsMem Q w w0 w gm dv pv s) (hc : Calm s) (ok : Okay F) (he : W64 x.2.2) (hF : F 21 = -1) (hb : Blk w gp 164 (ecells gl t x)) (hl : Blk w gl 138 (cellsF F)) (qp : Q gp) (ql : Q gl) (hne : gl ≠ gp) (p0 : w0.heap.size ≤ gp) :
    Calls Try.prog 34 #[.agg #[.pointer (some ⟨gp, 0, none⟩), .pointer none, .pointer none], .pointer (some ⟨gm, 0, none⟩)] w (StepPost Q w0 w gm gp 164 dv pv (enterS F t x s).2 (enterS F t x s).1.1 (ecells gl t (enterS F t x s).1)) := by
  have x0 := (Ext.refl w).alloc (.cells #[.pointer (some ⟨gp, 0, none⟩), .pointer none, .pointer none] 68)
  have b0 := Blk.new w 68 [.pointer (some ⟨gp, 0, none⟩), .pointer none, .pointer none]
  have HS := Lib.hid (enterStep_ok (h.ext x0).here hc ok he hF (hb.ext x0) (hl.ext x0) qp ql p0)
  have HK : Hid (∀ q, Q q → (w.alloc (.cells #[.pointer (some ⟨gp, 0, none⟩), .pointer none, .pointer none] 68)).heap[q]? = w.heap[q]?) := Lib.hid (fun q hq => x0.block q (h.lt.2 q hq))
  have c0 : (w.alloc (.cells #[.pointer (some ⟨gp, 0, none⟩), .pointer none, .pointer none] 68)).cell? ⟨w.heap.size, 0, none⟩ = some (.pointer (some ⟨gp, 0, none⟩)) := b0.cell 0
  have c1 : (w.alloc (.cells #[.pointer (some ⟨gp, 0, none⟩), .pointer none, .pointer none] 68)).cell? ⟨w.heap.size, 1, none⟩ = some (.pointer none) := b0.cell 1
  have c2 : (w.alloc (.cells #[.pointer (some ⟨gp, 0, none⟩), .pointer none, .pointer none] 68)).cell? ⟨w.heap.size, 2, none⟩ = some (.pointer none) := b0.cell 2
  clear h hc ok hb hl x0 b0
  go_enter Try.func34, Try.ntmps34
  go_upto_region 1 with fail
  generalize w.alloc (.cells #[.pointer (some ⟨gp, 0, none⟩), .pointer none, .pointer none] 68) = w1 at *
  go_wp2_with fail
  refine HS.out.mono ?_
  rintro e w2 ⟨rfl, m2, b2, k2⟩
  have M2 := Lib.hid m2
  have B2 := Lib.hid b2
  have K2 := Lib.hid k2
  clear m2 b2 k2 c0 c1 c2
  go_wp2_with fail
  go_ret
  exact ⟨rfl, M2.out, B2.out, fun q hq hn => (K2.out q hq hn).trans (HK.out q hq)⟩
set_option maxRecDepth 100000 in
set_option maxHeartbeats 2000000 in
theorem mstep_lea {d : Bool} (h : IsMem Q w w0 w gm dv pv s) (hc : Calm s) (ok : Okay F) (hb : Blk w gp 172 [.pointer (some ⟨gl, 0, none⟩), .int .i64 t, .bool d]) (hl : Blk w gl 138 (cellsF F)) (qp : Q gp) (ql : Q gl) (hne : gl ≠ gp) (p0 : w0.heap.size ≤ gp) :
    Calls Try.prog 34 #[.agg #[.pointer none, .pointer (some ⟨gp, 0, none⟩), .pointer none], .pointer (some ⟨gm, 0, none⟩)] w (StepPost Q w0 w gm gp 172 dv pv (if d = true then s else s.store t (ann F t) 0) true [.pointer (some ⟨gl, 0, none⟩), .int .i64 t, .bool true]) := by
  have x0 := (Ext.refl w).alloc (.cells #[.pointer none, .pointer (some ⟨gp, 0, none⟩), .pointer none] 68)
  have b0 := Blk.new w 68 [.pointer none, .pointer (some ⟨gp, 0, none⟩), .pointer none]
  have HS := Lib.hid (leaveStep_ok (h.ext x0).here hc ok (hb.ext x0) (hl.ext x0) qp ql p0)
  have HK : Hid (∀ q, Q q → (w.alloc (.cells #[.pointer none, .pointer (some ⟨gp, 0, none⟩), .pointer none] 68)).heap[q]? = w.heap[q]?) := Lib.hid (fun q hq => x0.block q (h.lt.2 q hq))
  have c0 : (w.alloc (.cells #[.pointer none, .pointer (some ⟨gp, 0, none⟩), .pointer none] 68)).cell? ⟨w.heap.size, 0, none⟩ = some (.pointer none) := b0.cell 0
  have c1 : (w.alloc (.cells #[.pointer none, .pointer (some ⟨gp, 0, none⟩), .pointer none] 68)).cell? ⟨w.heap.size, 1, none⟩ = some (.pointer (some ⟨gp, 0, none⟩)) := b0.cell 1
  have c2 : (w.alloc (.cells #[.pointer none, .pointer (some ⟨gp, 0, none⟩), .pointer none] 68)).cell? ⟨w.heap.size, 2, none⟩ = some (.pointer none) := b0.cell 2
  clear h hc ok hb hl x0 b0
  generalize (if d = true then s else s.store t (ann F t) 0) = s2 at *
  go_enter Try.func34, Try.ntmps34
  go_upto_region 1 with fail
  generalize w.alloc (.cells #[.pointer none, .pointer (some ⟨gp, 0, none⟩), .pointer none] 68) = w1 at *
  go_wp2_with fail
  refine HS.out.mono ?_
  rintro e w2 ⟨rfl, m2, b2, k2⟩
  have M2 := Lib.hid m2
  have B2 := Lib.hid b2
  have K2 := Lib.hid k2
  clear m2 b2 k2 c0 c1 c2
  go_wp2_with fail
  go_ret
  exact ⟨rfl, M2.out, B2.out, fun q hq hn => (K2.out q hq hn).trans (HK.out q hq)⟩
set_option maxRecDepth 100000 in
set_option maxHeartbeats 2000000 in
theorem mstep_adv {x : AMs} (h : IsMem Q w w0 w gm dv pv s) (hc : Calm s) (ok : Okay F) (hx : x.Wf T) (hT : T ≤ 100) (hF : F 21 = -1) (hF0 : F 0 = (T : Int)) (hb : Blk w gp 126 (x.cells gl t)) (hl : Blk w gl 138 (cellsF F)) (qp : Q gp) (ql : Q gl) (hne : gl ≠ gp) (p0 : w0.heap.size ≤ gp) :
    Calls Try.prog 34 #[.agg #[.pointer none, .pointer none, .pointer (some ⟨gp, 0, none⟩)], .pointer (some ⟨gm, 0, none⟩)] w (StepPost Q w0 w gm gp 126 dv pv (advS F T t x s).2 (advS F T t x s).1.dn ((advS F T t x s).1.cells gl t)) := by
  have x0 := (Ext.refl w).alloc (.cells #[.pointer none, .pointer none, .pointer (some ⟨gp, 0, none⟩)] 68)
  have b0 := Blk.new w 68 [.pointer none, .pointer none, .pointer (some ⟨gp, 0, none⟩)]
  have HS := Lib.hid (advStep_ok (h.ext x0).here hc ok hx (by omega) hF hF0 (hb.ext x0) (hl.ext x0) qp ql hne p0)
  have HK : Hid (∀ q, Q q → (w.alloc (.cells #[.pointer none, .pointer none, .pointer (some ⟨gp, 0, none⟩)] 68)).heap[q]? = w.heap[q]?) := Lib.hid (fun q hq => x0.block q (h.lt.2 q hq))
  have c0 : (w.alloc (.cells #[.pointer none, .pointer none, .pointer (some ⟨gp, 0, none⟩)] 68)).cell? ⟨w.heap.size, 0, none⟩ = some (.pointer none) := b0.cell 0
  have c1 : (w.alloc (.cells #[.pointer none, .pointer none, .pointer (some ⟨gp, 0, none⟩)] 68)).cell? ⟨w.heap.size, 1, none⟩ = some (.pointer none) := b0.cell 1
  have c2 : (w.alloc (.cells #[.pointer none, .pointer none, .pointer (some ⟨gp, 0, none⟩)] 68)).cell? ⟨w.heap.size, 2, none⟩ = some (.pointer (some ⟨gp, 0, none⟩)) := b0.cell 2
  clear h hc ok hb hl x0 b0
  go_enter Try.func34, Try.ntmps34
  go_upto_region 1 with fail
  generalize w.alloc (.cells #[.pointer none, .pointer none, .pointer (some ⟨gp, 0, none⟩)] 68) = w1 at *
  go_wp2_with fail
  refine HS.out.mono ?_
  rintro e w2 ⟨rfl, m2, b2, k2⟩
  have M2 := Lib.hid m2
  have B2 := Lib.hid b2
  have K2 := Lib.hid k2
  clear m2 b2 k2 c0 c1 c2
  go_wp2_with fail
  go_ret
  exact ⟨rfl, M2.out, B2.out, fun q hq hn => (K2.out q hq hn).trans (HK.out q hq)⟩
theorem Mc.own_step {m : Mc} {p : Nat × TypeId × List Value} (hm : m.own gl t = some p) (s : MSt) : ∃ cs', (m.S F T t s).1.own gl t = some (p.1, p.2.1, cs') := by
  cases m with
  | non => cases hm
  | ent g x => injection hm with hm; subst hm; exact ⟨_, rfl⟩
  | lea g d => injection hm with hm; subst hm; exact ⟨_, rfl⟩
  | adv g x => injection hm with hm; subst hm; exact ⟨_, rfl⟩
theorem mstep_ok {m : Mc} {p : Nat × TypeId × List Value} (hm : m.own gl t = some p) {cs' : List Value} (hm' : (m.S F T t s).1.own gl t = some (p.1, p.2.1, cs')) (h : IsMem Q w w0 w gm dv pv s) (hc : Calm s) (ok : Okay F) (he : ∀ g x, m = .ent g x → W64 x.2.2) (hx : ∀ g x, m = .adv g x → x.Wf T) (hT : T ≤ 100) (hF : F 21 = -1) (hF0 : F 0 = (T : Int)) (hb : Blk w p.1 p.2.1 p.2.2) (hl : Blk w gl 138 (cellsF F)) (qp : Q p.1) (ql : Q gl) (hne : gl ≠ p.1) (p0 : w0.heap.size ≤ p.1) :
    Calls Try.prog 34 #[.agg #[.pointer m.pE, .pointer m.pL, .pointer m.pA], .pointer (some ⟨gm, 0, none⟩)] w (StepPost Q w0 w gm p.1 p.2.1 dv pv (m.S F T t s).2 (m.S F T t s).1.dn cs') := by
  cases m with
  | non => cases hm
  | ent g x =>
    injection hm with hm
    subst hm
    have e : cs' = ecells gl t (enterS F t x s).1 := by injection hm' with hm'; injection hm' with _ hm'; injection hm' with _ hm'; exact hm'.symm
    subst e
    exact mstep_ent h hc ok (he _ _ rfl) hF hb hl qp ql hne p0
  | lea g d =>
    injection hm with hm
    subst hm
    have e : cs' = [.pointer (some ⟨gl, 0, none⟩), .int .i64 t, .bool true] := by injection hm' with hm'; injection hm' with _ hm'; injection hm' with _ hm'; exact hm'.symm
    subst e
    exact mstep_lea h hc ok hb hl qp ql hne p0
  | adv g x =>
    injection hm with hm
    subst hm
    have e : cs' = (advS F T t x s).1.cells gl t := by injection hm' with hm'; injection hm' with _ hm'; injection hm' with _ hm'; exact hm'.symm
    subst e
    exact mstep_adv h hc ok (hx _ _ rfl) hT hF hF0 hb hl qp ql hne p0
end
end Go.Proofs.Ytfbobdkfibhcnaa
