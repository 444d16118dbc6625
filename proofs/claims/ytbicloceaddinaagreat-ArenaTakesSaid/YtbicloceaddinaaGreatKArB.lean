/- Arena: a Take's New, Done, Step. Conditions: those that each theorem names. -/
import Derived.Test.YtbicloceaddinaaGreatKArA
namespace Go.Proofs.YtbicloceaddinaaGreat
open Go.ChangeShapes Go.WideShapes Go.ChangeAt Go.RowKit
set_option linter.unusedVariables false
set_option maxRecDepth 100000 in
theorem newTake_ok (w : World) (gl : Nat) (t : Int) : Calls Tryz.prog 17 #[.pointer (some ⟨gl, 0, none⟩), .int .i64 t] w fun e w' => ∃ gt gu, e = .returned (.pointer (some ⟨gt, 0, none⟩)) ∧ w.heap.size ≤ gu ∧ gu < gt ∧ Blk w' gt 149 (tkCells gl gu gt t (tkF 91 gt) (.pointer none) (.pointer none) false 0 0) ∧ Blk w' gu 217 (fcells gl t 0 0 false 0) ∧ Ext w w' := by
  go_enter Tryz.func17, Tryz.ntmps17
  go_wp2_with fail
  refine (newPop_ok w gl t).mono ?_
  rintro e w1 ⟨gu, rfl, lu, bu, xu⟩
  have BU := Lib.hid bu
  have XU := Lib.hid xu
  clear bu xu
  go_upto_region 2 with fail
  have B2 := Lib.hid (Blk.new w1 149 (tkCells gl gu w1.heap.size t Value.nilFunc (.pointer none) (.pointer none) false 0 0))
  have U2 := Lib.hid (BU.out.ext ((Ext.refl w1).alloc (.cells (tkCells gl gu w1.heap.size t Value.nilFunc (.pointer none) (.pointer none) false 0 0).toArray 149)))
  have X2 := Lib.hid (XU.out.alloc (.cells (tkCells gl gu w1.heap.size t Value.nilFunc (.pointer none) (.pointer none) false 0 0).toArray 149))
  have hlt := BU.out.lt
  have hw1 := XU.out.size
  have hgt : w1.heap.size < (w1.alloc (.cells (tkCells gl gu w1.heap.size t Value.nilFunc (.pointer none) (.pointer none) false 0 0).toArray 149)).heap.size := B2.out.lt
  change Code.wp _ _ _ _ (w1.alloc (.cells (tkCells gl gu w1.heap.size t Value.nilFunc (.pointer none) (.pointer none) false 0 0).toArray 149))
  generalize w1.alloc (.cells (tkCells gl gu w1.heap.size t Value.nilFunc (.pointer none) (.pointer none) false 0 0).toArray 149) = w2 at *
  obtain ⟨gt, hgt0⟩ : ∃ gt, w1.heap.size = gt := ⟨_, rfl⟩
  rw [hgt0] at B2 hlt hw1 hgt
  rw [hgt0]
  clear hgt0
  have y2 : w2.cell? ⟨gt, 2, none⟩ = some Value.nilFunc := B2.out.cell 2
  have z2 : w2.frozen? ⟨gt, 2, none⟩ = false := B2.out.frozen 2
  go_wp2_with fail
  go_ret
  have nug : gu ≠ gt := by omega
  exact ⟨gt, gu, rfl, lu, hlt, B2.out.set 2 _, U2.out.far (p := ⟨gt, 2, none⟩) nug _, X2.out.setCell (p := ⟨gt, 2, none⟩) hw1 _⟩
theorem funcNe {n : FuncId} {gt : Nat} (W : World) : (binOp .eql 146 (.func (.func n) #[.pointer (some ⟨gt, 0, none⟩)] #[]) .nilFunc).run Tryz.prog W = .ok (.bool false) W := by kernel_rfl
theorem funcEq (W : World) : (binOp .eql 146 .nilFunc .nilFunc).run Tryz.prog W = .ok (.bool true) W := by kernel_rfl
set_option maxRecDepth 100000 in
theorem takeDone_no (w : World) (gt : Nat) (n : FuncId) (c2 : w.cell? ⟨gt, 2, none⟩ = some (tkF n gt)) :
    Calls Tryz.prog 21 #[.pointer (some ⟨gt, 0, none⟩)] w fun e w' => e = .returned (.bool false) ∧ w = w' := by
  unfold tkF at c2
  have he := fun W => funcNe (n := n) (gt := gt) W
  go_enter Tryz.func21, Tryz.ntmps21
  go_wp2_with fail
  go_ret
  exact ⟨rfl, rfl⟩
set_option maxRecDepth 100000 in
theorem takeDone_yes (w : World) (gt : Nat) (c2 : w.cell? ⟨gt, 2, none⟩ = some .nilFunc) :
    Calls Tryz.prog 21 #[.pointer (some ⟨gt, 0, none⟩)] w fun e w' => e = .returned (.bool true) ∧ w = w' := by
  have he := fun W => funcEq W
  go_enter Tryz.func21, Tryz.ntmps21
  go_wp2_with fail
  go_ret
  exact ⟨rfl, rfl⟩
section
variable {Q : Nat → Prop} {w0 w : World} {gm gt : Nat} {dv pv : Value} {s' : MSt} {cs : List Value}
set_option maxRecDepth 100000 in
/-- A step of a Take is its part's. -/
theorem takeStep_intendPart (c2 : w.cell? ⟨gt, 2, none⟩ = some (tkF 158 gt)) (hp : Calls Tryz.prog 158 #[.pointer (some ⟨gt, 0, none⟩), .pointer (some ⟨gm, 0, none⟩)] w (PartPost Q w0 w gm gt dv pv s' cs)) (r : Bool) (hcs : cs[2]? = some .nilFunc ∧ r = true ∨ ∃ n', cs[2]? = some (tkF n' gt) ∧ r = false) :
    Calls Tryz.prog 19 #[.pointer (some ⟨gt, 0, none⟩), .pointer (some ⟨gm, 0, none⟩)] w (StepPost Q w0 w gm gt 149 dv pv s' r cs) := by
  have HD := Lib.hid (takeDone_no w gt _ c2)
  have HP := Lib.hid hp
  unfold tkF at c2
  clear hp
  go_enter Tryz.func19, Tryz.ntmps19
  go_wp2_with fail
  refine HD.out.mono ?_
  rintro e w' ⟨rfl, rfl⟩
  go_wp2_with fail
  refine HP.out.mono ?_
  rintro e w1 ⟨⟨u, rfl⟩, m1, b1, k1⟩
  have M1 := Lib.hid m1
  have B1 := Lib.hid b1
  have K1 := Lib.hid k1
  have HD1 : Hid (Calls Tryz.prog 21 #[.pointer (some ⟨gt, 0, none⟩)] w1 fun e w' => e = .returned (.bool r) ∧ w1 = w') := Lib.hid (by
    rcases hcs with ⟨h, rfl⟩ | ⟨n', h, rfl⟩
    · exact takeDone_yes w1 gt ((b1.cell 2).trans h)
    · exact takeDone_no w1 gt n' ((b1.cell 2).trans h))
  clear m1 b1 k1 hcs c2
  go_wp2_with fail
  refine HD1.out.mono ?_
  rintro e w' ⟨rfl, rfl⟩
  go_wp2_with fail
  go_ret
  exact ⟨rfl, M1.out, B1.out, K1.out⟩
set_option maxRecDepth 100000 in
/-- A step of a Take is its part's. -/
theorem takeStep_flushPart (c2 : w.cell? ⟨gt, 2, none⟩ = some (tkF 203 gt)) (hp : Calls Tryz.prog 203 #[.pointer (some ⟨gt, 0, none⟩), .pointer (some ⟨gm, 0, none⟩)] w (PartPost Q w0 w gm gt dv pv s' cs)) (r : Bool) (hcs : cs[2]? = some .nilFunc ∧ r = true ∨ ∃ n', cs[2]? = some (tkF n' gt) ∧ r = false) :
    Calls Tryz.prog 19 #[.pointer (some ⟨gt, 0, none⟩), .pointer (some ⟨gm, 0, none⟩)] w (StepPost Q w0 w gm gt 149 dv pv s' r cs) := by
  have HD := Lib.hid (takeDone_no w gt _ c2)
  have HP := Lib.hid hp
  unfold tkF at c2
  clear hp
  go_enter Tryz.func19, Tryz.ntmps19
  go_wp2_with fail
  refine HD.out.mono ?_
  rintro e w' ⟨rfl, rfl⟩
  go_wp2_with fail
  refine HP.out.mono ?_
  rintro e w1 ⟨⟨u, rfl⟩, m1, b1, k1⟩
  have M1 := Lib.hid m1
  have B1 := Lib.hid b1
  have K1 := Lib.hid k1
  have HD1 : Hid (Calls Tryz.prog 21 #[.pointer (some ⟨gt, 0, none⟩)] w1 fun e w' => e = .returned (.bool r) ∧ w1 = w') := Lib.hid (by
    rcases hcs with ⟨h, rfl⟩ | ⟨n', h, rfl⟩
    · exact takeDone_yes w1 gt ((b1.cell 2).trans h)
    · exact takeDone_no w1 gt n' ((b1.cell 2).trans h))
  clear m1 b1 k1 hcs c2
  go_wp2_with fail
  refine HD1.out.mono ?_
  rintro e w' ⟨rfl, rfl⟩
  go_wp2_with fail
  go_ret
  exact ⟨rfl, M1.out, B1.out, K1.out⟩
set_option maxRecDepth 100000 in
/-- A step of a Take is its part's. -/
theorem takeStep_fencePart (c2 : w.cell? ⟨gt, 2, none⟩ = some (tkF 224 gt)) (hp : Calls Tryz.prog 224 #[.pointer (some ⟨gt, 0, none⟩), .pointer (some ⟨gm, 0, none⟩)] w (PartPost Q w0 w gm gt dv pv s' cs)) (r : Bool) (hcs : cs[2]? = some .nilFunc ∧ r = true ∨ ∃ n', cs[2]? = some (tkF n' gt) ∧ r = false) :
    Calls Tryz.prog 19 #[.pointer (some ⟨gt, 0, none⟩), .pointer (some ⟨gm, 0, none⟩)] w (StepPost Q w0 w gm gt 149 dv pv s' r cs) := by
  have HD := Lib.hid (takeDone_no w gt _ c2)
  have HP := Lib.hid hp
  unfold tkF at c2
  clear hp
  go_enter Tryz.func19, Tryz.ntmps19
  go_wp2_with fail
  refine HD.out.mono ?_
  rintro e w' ⟨rfl, rfl⟩
  go_wp2_with fail
  refine HP.out.mono ?_
  rintro e w1 ⟨⟨u, rfl⟩, m1, b1, k1⟩
  have M1 := Lib.hid m1
  have B1 := Lib.hid b1
  have K1 := Lib.hid k1
  have HD1 : Hid (Calls Tryz.prog 21 #[.pointer (some ⟨gt, 0, none⟩)] w1 fun e w' => e = .returned (.bool r) ∧ w1 = w') := Lib.hid (by
    rcases hcs with ⟨h, rfl⟩ | ⟨n', h, rfl⟩
    · exact takeDone_yes w1 gt ((b1.cell 2).trans h)
    · exact takeDone_no w1 gt n' ((b1.cell 2).trans h))
  clear m1 b1 k1 hcs c2
  go_wp2_with fail
  refine HD1.out.mono ?_
  rintro e w' ⟨rfl, rfl⟩
  go_wp2_with fail
  go_ret
  exact ⟨rfl, M1.out, B1.out, K1.out⟩
set_option maxRecDepth 100000 in
/-- A step of a Take is its part's. -/
theorem takeStep_loadPart (c2 : w.cell? ⟨gt, 2, none⟩ = some (tkF 240 gt)) (hp : Calls Tryz.prog 240 #[.pointer (some ⟨gt, 0, none⟩), .pointer (some ⟨gm, 0, none⟩)] w (PartPost Q w0 w gm gt dv pv s' cs)) (r : Bool) (hcs : cs[2]? = some .nilFunc ∧ r = true ∨ ∃ n', cs[2]? = some (tkF n' gt) ∧ r = false) :
    Calls Tryz.prog 19 #[.pointer (some ⟨gt, 0, none⟩), .pointer (some ⟨gm, 0, none⟩)] w (StepPost Q w0 w gm gt 149 dv pv s' r cs) := by
  have HD := Lib.hid (takeDone_no w gt _ c2)
  have HP := Lib.hid hp
  unfold tkF at c2
  clear hp
  go_enter Tryz.func19, Tryz.ntmps19
  go_wp2_with fail
  refine HD.out.mono ?_
  rintro e w' ⟨rfl, rfl⟩
  go_wp2_with fail
  refine HP.out.mono ?_
  rintro e w1 ⟨⟨u, rfl⟩, m1, b1, k1⟩
  have M1 := Lib.hid m1
  have B1 := Lib.hid b1
  have K1 := Lib.hid k1
  have HD1 : Hid (Calls Tryz.prog 21 #[.pointer (some ⟨gt, 0, none⟩)] w1 fun e w' => e = .returned (.bool r) ∧ w1 = w') := Lib.hid (by
    rcases hcs with ⟨h, rfl⟩ | ⟨n', h, rfl⟩
    · exact takeDone_yes w1 gt ((b1.cell 2).trans h)
    · exact takeDone_no w1 gt n' ((b1.cell 2).trans h))
  clear m1 b1 k1 hcs c2
  go_wp2_with fail
  refine HD1.out.mono ?_
  rintro e w' ⟨rfl, rfl⟩
  go_wp2_with fail
  go_ret
  exact ⟨rfl, M1.out, B1.out, K1.out⟩
set_option maxRecDepth 100000 in
/-- A step of a Take is its part's. -/
theorem takeStep_storePart (c2 : w.cell? ⟨gt, 2, none⟩ = some (tkF 253 gt)) (hp : Calls Tryz.prog 253 #[.pointer (some ⟨gt, 0, none⟩), .pointer (some ⟨gm, 0, none⟩)] w (PartPost Q w0 w gm gt dv pv s' cs)) (r : Bool) (hcs : cs[2]? = some .nilFunc ∧ r = true ∨ ∃ n', cs[2]? = some (tkF n' gt) ∧ r = false) :
    Calls Tryz.prog 19 #[.pointer (some ⟨gt, 0, none⟩), .pointer (some ⟨gm, 0, none⟩)] w (StepPost Q w0 w gm gt 149 dv pv s' r cs) := by
  have HD := Lib.hid (takeDone_no w gt _ c2)
  have HP := Lib.hid hp
  unfold tkF at c2
  clear hp
  go_enter Tryz.func19, Tryz.ntmps19
  go_wp2_with fail
  refine HD.out.mono ?_
  rintro e w' ⟨rfl, rfl⟩
  go_wp2_with fail
  refine HP.out.mono ?_
  rintro e w1 ⟨⟨u, rfl⟩, m1, b1, k1⟩
  have M1 := Lib.hid m1
  have B1 := Lib.hid b1
  have K1 := Lib.hid k1
  have HD1 : Hid (Calls Tryz.prog 21 #[.pointer (some ⟨gt, 0, none⟩)] w1 fun e w' => e = .returned (.bool r) ∧ w1 = w') := Lib.hid (by
    rcases hcs with ⟨h, rfl⟩ | ⟨n', h, rfl⟩
    · exact takeDone_yes w1 gt ((b1.cell 2).trans h)
    · exact takeDone_no w1 gt n' ((b1.cell 2).trans h))
  clear m1 b1 k1 hcs c2
  go_wp2_with fail
  refine HD1.out.mono ?_
  rintro e w' ⟨rfl, rfl⟩
  go_wp2_with fail
  go_ret
  exact ⟨rfl, M1.out, B1.out, K1.out⟩
set_option maxRecDepth 100000 in
theorem takeStep_done (h : IsMem Q w w0 w gm dv pv s') (hb : Blk w gt 149 cs) (c2 : cs[2]? = some .nilFunc) :
    Calls Tryz.prog 19 #[.pointer (some ⟨gt, 0, none⟩), .pointer (some ⟨gm, 0, none⟩)] w (StepPost Q w0 w gm gt 149 dv pv s' true cs) := by
  have H := Lib.hid h
  have HB := Lib.hid hb
  have c : w.cell? ⟨gt, 2, none⟩ = some .nilFunc := (hb.cell 2).trans c2
  have HD := Lib.hid (takeDone_yes w gt c)
  clear h hb c c2
  go_enter Tryz.func19, Tryz.ntmps19
  go_wp2_with fail
  refine HD.out.mono ?_
  rintro e w' ⟨rfl, rfl⟩
  go_wp2_with fail
  go_ret
  exact ⟨rfl, H.out, HB.out, fun b _ _ => rfl⟩
end
end Go.Proofs.YtbicloceaddinaaGreat


/- Arena: what a Take tells; its Advance's part. Conditions: those that each theorem names. -/
namespace Go.Proofs.YtbicloceaddinaaGreat
open Go.ChangeShapes Go.WideShapes Go.ChangeAt Go.RowKit
set_option linter.unusedVariables false
set_option maxRecDepth 100000 in
theorem takeSlot_yes (w : World) (gt gu : Nat) (v : Int) (c2 : w.cell? ⟨gt, 2, none⟩ = some .nilFunc) (c3 : w.cell? ⟨gt, 3, none⟩ = some (.pointer (some ⟨gu, 0, none⟩))) (hs : Calls Tryz.prog 95 #[.pointer (some ⟨gu, 0, none⟩)] w fun e w' => e = .returned (.int .i64 v) ∧ Ext w w') :
    Calls Tryz.prog 22 #[.pointer (some ⟨gt, 0, none⟩)] w fun e w' => e = .returned (.int .i64 v) ∧ Ext w w' := by
  have HD := Lib.hid (takeDone_yes w gt c2)
  have HS := Lib.hid hs
  clear hs c2
  go_enter Tryz.func22, Tryz.ntmps22
  go_wp2_with fail
  refine HD.out.mono ?_
  rintro e w' ⟨rfl, rfl⟩
  go_wp2_with fail
  refine HS.out.mono ?_
  rintro e w1 ⟨rfl, x1⟩
  have X1 := Lib.hid x1
  clear x1 c3
  go_wp2_with fail
  go_ret
  exact ⟨rfl, X1.out⟩
set_option maxRecDepth 100000 in
theorem takeSlot_no (w : World) (gt : Nat) (n : FuncId) (c2 : w.cell? ⟨gt, 2, none⟩ = some (tkF n gt)) :
    Calls Tryz.prog 22 #[.pointer (some ⟨gt, 0, none⟩)] w fun e w' => e = .returned (.int .i64 (-1)) ∧ Ext w w' := by
  have HD := Lib.hid (takeDone_no w gt n c2)
  clear c2
  go_enter Tryz.func22, Tryz.ntmps22
  go_wp2_with fail
  refine HD.out.mono ?_
  rintro e w' ⟨rfl, rfl⟩
  go_wp2_with fail
  go_ret
  exact ⟨rfl, Ext.refl _⟩
set_option maxRecDepth 100000 in
theorem takeEmpty_ok (w : World) (gt : Nat) (dry : Bool) (empty : Int) (c6 : w.cell? ⟨gt, 6, none⟩ = some (.bool dry)) (c7 : w.cell? ⟨gt, 7, none⟩ = some (.int .i64 empty)) :
    Calls Tryz.prog 25 #[.pointer (some ⟨gt, 0, none⟩)] w fun e w' => e = .returned (.int .i64 (if dry = true then empty else -1)) ∧ w = w' := by
  cases dry
  all_goals
    go_enter Tryz.func25, Tryz.ntmps25
    go_wp2_with fail
    go_ret
    exact ⟨rfl, rfl⟩
set_option maxRecDepth 100000 in
/-- What a Take holds: what its Pop has, or its Reclaim. -/
theorem takeHolds_ok (w : World) (gt gu : Nat) (rc : Value) (v r : Int) (c3 : w.cell? ⟨gt, 3, none⟩ = some (.pointer (some ⟨gu, 0, none⟩))) (c5 : w.cell? ⟨gt, 5, none⟩ = some rc) (hs : Calls Tryz.prog 95 #[.pointer (some ⟨gu, 0, none⟩)] w fun e w' => e = .returned (.int .i64 v) ∧ Ext w w') (hr : ∀ W, Ext w W → Calls Tryz.prog 86 #[rc] W fun e w' => e = .returned (.int .i64 r) ∧ Ext W w') :
    Calls Tryz.prog 23 #[.pointer (some ⟨gt, 0, none⟩)] w fun e w' => e = .returned (.int .i64 (if v = -1 then r else v)) ∧ Ext w w' := by
  have HS := Lib.hid hs
  have HR := Lib.hid hr
  have HC := Lib.hid c5
  clear hs hr c5
  by_cases h : v = -1
  · subst h
    rw [if_pos rfl]
    go_enter Tryz.func23, Tryz.ntmps23
    go_wp2_with fail
    refine HS.out.mono ?_
    rintro e w1 ⟨rfl, x1⟩
    have X1 := Lib.hid x1
    have c5 : w1.cell? ⟨gt, 5, none⟩ = some rc := cellE HC.out x1
    clear x1 c3
    go_wp2_with fail
    refine (HR.out _ X1.out).mono ?_
    rintro e w2 ⟨rfl, x2⟩
    have X2 := Lib.hid (X1.out.trans x2)
    clear x2 c5
    go_wp2_with fail
    go_ret
    exact ⟨rfl, X2.out⟩
  · rw [if_neg h]
    have d : (v != -1) = true := by simpa using h
    go_enter Tryz.func23, Tryz.ntmps23
    go_wp2_with fail
    refine HS.out.mono ?_
    rintro e w1 ⟨rfl, x1⟩
    have X1 := Lib.hid x1
    clear x1 c3
    go_wp2_with fail
    go_ret
    exact ⟨rfl, X1.out⟩
section
variable {Q : Nat → Prop} {w0 w : World} {gm gt gu gl ga : Nat} {dv pv : Value} {s' : MSt} {t : Int} {nx rc : Value} {dry : Bool} {empty gen : Int} {cs : List Value}
/-- What a part leaves that does a step of another machine. -/
def PartPost2 (Q : Nat → Prop) (w0 w : World) (gm gt ga : Nat) (T : TypeId) (dv pv : Value) (s' : MSt) (tcs acs : List Value) (e : Ending) (w' : World) : Prop :=
  (∃ u, e = .returned u) ∧ IsMem Q w' w0 w' gm dv pv s' ∧ Blk w' gt 149 tcs ∧ Blk w' ga T acs ∧ (∀ b, Q b → b ≠ gt → b ≠ ga → w'.heap[b]? = w.heap[b]?)
set_option maxRecDepth 100000 in
set_option maxHeartbeats 4000000 in
theorem advancePart_ok (r : Bool) (hb : Blk w gt 149 (tkCells gl gu gt t nx (.pointer (some ⟨ga, 0, none⟩)) rc dry empty gen)) (hst : Calls Tryz.prog 204 #[.pointer (some ⟨ga, 0, none⟩), .pointer (some ⟨gm, 0, none⟩)] w (StepPost Q w0 w gm ga 250 dv pv s' r cs)) (qt : Q gt) (p0 : w0.heap.size ≤ gt) (nag : ga ≠ gt) (hlt : ∀ b, Q b → b < w.heap.size) :
    Calls Tryz.prog 160 #[.pointer (some ⟨gt, 0, none⟩), .pointer (some ⟨gm, 0, none⟩)] w (PartPost2 Q w0 w gm gt ga 250 dv pv s' (tkCells gl gu gt t (if r = true then tkF 205 gt else nx) (.pointer (some ⟨ga, 0, none⟩)) rc dry empty gen) cs) := by
  obtain ⟨nv, hnv⟩ : ∃ nv, (if r = true then tkF 205 gt else nx) = nv := ⟨_, rfl⟩
  rw [hnv]
  have HNv := Lib.hid hnv
  clear hnv
  have HB := Lib.hid hb
  have HS := Lib.hid hst
  have c4 : w.cell? ⟨gt, 4, none⟩ = some (.pointer (some ⟨ga, 0, none⟩)) := hb.cell 4
  clear hb hst
  go_enter Tryz.func160, Tryz.ntmps160
  go_wp2_with fail
  refine HS.out.mono ?_
  rintro e w1 ⟨rfl, m1, b1, k1⟩
  have M1 := Lib.hid m1
  have A1 := Lib.hid b1
  have K1 := Lib.hid k1
  have B1 : Hid (Blk w1 gt 149 (tkCells gl gu gt t nx (.pointer (some ⟨ga, 0, none⟩)) rc dry empty gen)) := Lib.hid ((k1 gt qt (fun e => nag e.symm)).trans HB.out)
  clear m1 b1 k1 c4
  cases r
  · go_wp2_with fail
    refine bodyPost_end (results_none rfl _ _ _) rfl ?_
    exact ⟨⟨_, rfl⟩, M1.out, by rw [← HNv.out, if_neg (by decide)]; exact B1.out, A1.out, fun b hb _ hne => K1.out b hb hne⟩
  · have y2 : w1.cell? ⟨gt, 2, none⟩ = some nx := B1.out.cell 2
    have z2 : w1.frozen? ⟨gt, 2, none⟩ = false := B1.out.frozen 2
    go_wp2_with fail
    have f : Fr (fun b => b = gt) w1 (w1.setCell ⟨gt, 2, none⟩ (tkF 205 gt)) := Fr.setCell (S := fun b => b = gt) (p := ⟨gt, 2, none⟩) (Fr.refl _ w1) (Or.inl rfl) _
    refine bodyPost_end (results_none rfl _ _ _) rfl ?_
    refine ⟨⟨_, rfl⟩, M1.out.turn f (fun b e => by rw [e]; exact qt) (fun b e => by rw [e]; exact p0), by rw [← HNv.out, if_pos (by trivial)]; exact B1.out.set 2 _, A1.out.far (p := ⟨gt, 2, none⟩) nag _, fun b hb hne hna => ?_⟩
    exact (f.block b (M1.out.lt.2 b hb) hne).trans (K1.out b hb hna)
end
end Go.Proofs.YtbicloceaddinaaGreat

