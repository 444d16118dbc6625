/- Arena: a Give, its parts. Conditions: those that each theorem names. -/
import Derived.Test.YtfjfeomkmhbpbaaGreatKRetC
import Derived.Deep.RegionHeld3
namespace Go.Proofs.YtfjfeomkmhbpbaaGreat
open Go.ChangeShapes Go.WideShapes Go.ChangeAt Go.RowKit
set_option linter.unusedVariables false
/-- A Give's cells. -/
def gvCells (gl gu : Nat) (t slot : Int) (dropped : Bool) : List Value := [.pointer (some ⟨gl, 0, none⟩), .int .i64 t, .int .i64 slot, .bool dropped, .pointer (some ⟨gu, 0, none⟩)]
theorem newGive_ok (w : World) (gl : Nat) (t slot : Int) : Calls Tryz.prog 20 #[.pointer (some ⟨gl, 0, none⟩), .int .i64 t, .int .i64 slot] w fun e w' => ∃ gg gu, e = .returned (.pointer (some ⟨gg, 0, none⟩)) ∧ w.heap.size ≤ gu ∧ gu < gg ∧ Blk w' gg 164 (gvCells gl gu t slot false) ∧ Blk w' gu 237 (fcells gl t 0 0 false slot) ∧ Ext w w' := by
  go_enter Tryz.func20, Tryz.ntmps20
  go_wp2_with fail
  refine (newPush_ok w gl t slot).mono ?_
  rintro e w1 ⟨gu, rfl, lu, bu, xu⟩
  have BU := Lib.hid bu
  have XU := Lib.hid xu
  clear bu xu
  go_wp2_with fail
  go_ret
  exact ⟨w1.heap.size, gu, rfl, lu, BU.out.lt, Blk.new w1 _ _, BU.out.ext ((Ext.refl w1).alloc _), XU.out.alloc _⟩
theorem giveDone_ok (w : World) (gg gu : Nat) (dn : Bool) (c4 : w.cell? ⟨gg, 4, none⟩ = some (.pointer (some ⟨gu, 0, none⟩))) (d4 : w.cell? ⟨gu, 4, none⟩ = some (.bool dn)) :
    Calls Tryz.prog 24 #[.pointer (some ⟨gg, 0, none⟩)] w fun e w' => e = .returned (.bool dn) ∧ w = w' := by
  have HD := Lib.hid (pushDone_ok w gu dn d4)
  clear d4
  go_enter Tryz.func24, Tryz.ntmps24
  go_wp2_with fail
  refine HD.out.mono ?_
  rintro e w1 ⟨rfl, rfl⟩
  go_wp2_with fail
  go_ret
  exact ⟨rfl, rfl⟩
theorem giveHolds_ok (w : World) (gg gu : Nat) (dn : Bool) (slot : Int) (c2 : w.cell? ⟨gg, 2, none⟩ = some (.int .i64 slot)) (c4 : w.cell? ⟨gg, 4, none⟩ = some (.pointer (some ⟨gu, 0, none⟩))) (d4 : w.cell? ⟨gu, 4, none⟩ = some (.bool dn)) :
    Calls Tryz.prog 25 #[.pointer (some ⟨gg, 0, none⟩)] w fun e w' => e = .returned (.int .i64 (if dn = true then -1 else slot)) ∧ w = w' := by
  have HD := Lib.hid (giveDone_ok w gg gu dn c4 d4)
  clear d4 c4
  go_enter Tryz.func25, Tryz.ntmps25
  go_wp2_with fail
  refine HD.out.mono ?_
  rintro e w1 ⟨rfl, rfl⟩
  cases dn
  all_goals
    go_wp2_with fail
    go_ret
    exact ⟨rfl, rfl⟩
/-- Where a thread's intent lies. -/
def intN (F : Nat → Int) (t : Int) : Int := wordAt (F 4) (F 12) (F 13) (F 14) t 1
theorem intN_rng {F : Nat → Int} (ok : Okay F) (t : Int) : -9223372036854775808 ≤ intN F t ∧ intN F t < 9223372036854775808 := by
  have ha : Small (F 12) := ok.r12.a
  have hdd : -1000 ≤ F 13 ∧ F 13 ≤ 1000 := ok.r12.d
  have hm : F 14 ≤ 65536 := ok.r12.m
  obtain ⟨a0, a1⟩ := ha
  obtain ⟨d0, d1⟩ := hdd
  have h0 := ok.v0
  have h1 := ok.v1
  unfold intN wordAt
  split
  · rename_i h
    obtain ⟨n0, n1⟩ := h
    have e1 : t * F 13 ≤ t * 1000 := Int.mul_le_mul_of_nonneg_left d1 n0
    have e2 : t * (-1000) ≤ t * F 13 := Int.mul_le_mul_of_nonneg_left d0 n0
    omega
  · omega
theorem intent_ok {F : Nat → Int} (ok : Okay F) (gl : Nat) (n : Int) (w : World) (hl : Blk w gl 205 (cellsF F)) :
    Calls Tryz.prog 103 #[.pointer (some ⟨gl, 0, none⟩), .int .i64 n] w fun e w' => e = .returned (.int .i64 (intN F n)) ∧ Ext w w' :=
  tIntent_any (some ⟨gl, 0, none⟩) (cellsF F) (F 4) (F 12) (F 13) (F 14) n w (Or.inl ⟨gl, rfl, hl⟩) (cellsF_at F 4 (by omega)) ok.v0 ok.v1 ok.r12.a ok.r12.d ok.r12.m (cellsF_at F 12 (by omega)) (cellsF_at F 13 (by omega)) (cellsF_at F 14 (by omega))
/-- A Give: whether the intent is dropped, and its Push. -/
structure GvM where
  dropped : Bool
  push : PMs
def gvS (F : Nat → Int) (t : Int) (x : GvM) (s : MSt) : GvM × MSt :=
  if x.push.dn = true then (x, s)
  else if x.dropped = true then (⟨true, (pushS F t x.push s).1⟩, (pushS F t x.push s).2)
  else (⟨true, x.push⟩, s.store t (intN F t) 0)
section
variable {Q : Nat → Prop} {w0 w : World} {gm gg gu gl : Nat} {dv pv : Value} {s : MSt} {F : Nat → Int} {t slot : Int} {x : GvM}
set_option maxRecDepth 100000 in
set_option maxHeartbeats 4000000 in
theorem giveStep_ok (h : IsMem Q w w0 w gm dv pv s) (hc : Calm s) (ok : Okay F) (hF : F 22 = -2) (hx : x.push.Wf) (hb : Blk w gg 164 (gvCells gl gu t slot x.dropped)) (hu : Blk w gu 237 (x.push.cells gl t)) (hl : Blk w gl 205 (cellsF F)) (qg : Q gg) (qu : Q gu) (ql : Q gl) (p0 : w0.heap.size ≤ gg) (p1 : w0.heap.size ≤ gu) (nug : gu ≠ gg) (nlg : gl ≠ gg) :
    Calls Tryz.prog 22 #[.pointer (some ⟨gg, 0, none⟩), .pointer (some ⟨gm, 0, none⟩)] w fun e w' => e = .returned (.bool (gvS F t x s).1.push.dn) ∧ IsMem Q w' w0 w' gm dv pv (gvS F t x s).2 ∧ Blk w' gg 164 (gvCells gl gu t slot (gvS F t x s).1.dropped) ∧ Blk w' gu 237 ((gvS F t x s).1.push.cells gl t) ∧ ∀ b, Q b → b ≠ gg → b ≠ gu → w'.heap[b]? = w.heap[b]? := by
  obtain ⟨dropped, push⟩ := x
  have H := Lib.hid h
  have HB := Lib.hid hb
  have HU := Lib.hid hu
  have HL := Lib.hid hl
  have HD := Lib.hid (giveDone_ok w gg gu push.dn (hb.cell 4) (hu.cell 4))
  have c0 : w.cell? ⟨gg, 0, none⟩ = some (.pointer (some ⟨gl, 0, none⟩)) := hb.cell 0
  have c1 : w.cell? ⟨gg, 1, none⟩ = some (.int .i64 t) := hb.cell 1
  have c3 : w.cell? ⟨gg, 3, none⟩ = some (.bool dropped) := hb.cell 3
  have c4 : w.cell? ⟨gg, 4, none⟩ = some (.pointer (some ⟨gu, 0, none⟩)) := hb.cell 4
  by_cases hd : push.dn = true
  · have e : gvS F t ⟨dropped, push⟩ s = (⟨dropped, push⟩, s) := if_pos hd
    rw [e]
    simp only
    rw [hd] at HD ⊢
    clear h hb hu hl hc ok hx e c0 c1 c3 c4
    go_enter Tryz.func22, Tryz.ntmps22
    go_wp2_with fail
    refine HD.out.mono ?_
    rintro e w' ⟨rfl, rfl⟩
    go_wp2_with fail
    go_ret
    exact ⟨rfl, H.out, HB.out, HU.out, fun b _ _ _ => rfl⟩
  · have hdf : push.dn = false := by simpa using hd
    cases dropped
    · have e : gvS F t ⟨false, push⟩ s = (⟨true, push⟩, s.store t (intN F t) 0) := by
        unfold gvS
        rw [if_neg hd]
        rfl
      have har := intN_rng ok t
      have HIn : Hid (∀ W s', IsMem Q w w0 W gm dv pv s' → Calls Tryz.prog 103 #[.pointer (some ⟨gl, 0, none⟩), .int .i64 t] W fun e w' => e = .returned (.int .i64 (intN F t)) ∧ Ext W w') := Lib.hid (fun W s' m => intent_ok ok gl t W ((m.keptQ gl ql).trans hl))
      have HSt : Hid (∀ W, IsMem Q w w0 W gm dv pv s → Calls Tryz.prog 67 #[.pointer (some ⟨gm, 0, none⟩), .int .i64 t, .int .i64 (intN F t), .int .u64 0] W fun e w' => (∃ u, e = .returned u) ∧ IsMem Q w w0 w' gm dv pv (s.store t (intN F t) 0)) := Lib.hid (fun W m => memStore_ok m t _ 0 har.1 har.2 ⟨by decide, by decide⟩ hc)
      rw [e]
      simp only
      rw [hdf] at HD ⊢
      generalize s.store t (intN F t) 0 = s1 at *
      generalize intN F t = a at *
      clear h hb hu hl hc ok hx e har
      go_enter Tryz.func22, Tryz.ntmps22
      go_wp2_with fail
      refine HD.out.mono ?_
      rintro e w' ⟨rfl, rfl⟩
      go_wp2_with fail
      have HK : Hid (∀ W s', IsMem Q w w0 W gm dv pv s' → W.cell? ⟨gg, 0, none⟩ = some (.pointer (some ⟨gl, 0, none⟩)) ∧ W.cell? ⟨gg, 1, none⟩ = some (.int .i64 t)) := Lib.hid (fun W s' m => by
        have b : Blk W gg 164 (gvCells gl gu t slot false) := (m.keptQ gg qg).trans HB.out
        exact ⟨b.cell 0, b.cell 1⟩)
      have M := Lib.hid (H.out.ext ((Ext.refl w).drew))
      clear c3 c4
      go_region_held3 (fun W => W.cell? ⟨gg, 0, none⟩ = some (.pointer (some ⟨gl, 0, none⟩)) ∧ W.cell? ⟨gg, 1, none⟩ = some (.int .i64 t)) (first | exact HK.out _ _ M.out | go_keep) (first
        | (go_at_call 103; refine (HIn.out _ _ M.out).mono ?_; rintro e w1 ⟨rfl, x1⟩; replace M := Lib.hid (M.out.ext x1); clear x1)
        | (go_at_call 67; refine (HSt.out _ M.out).mono ?_; rintro e w2 ⟨⟨u, rfl⟩, m1⟩; replace M := Lib.hid m1; clear m1))
      all_goals
        have B2 : Hid (Blk w2 gg 164 (gvCells gl gu t slot false)) := Lib.hid ((M.out.keptQ gg qg).trans HB.out)
        have U2 : Hid (Blk w2 gu 237 (push.cells gl t)) := Lib.hid ((M.out.keptQ gu qu).trans HU.out)
        have y3 : w2.cell? ⟨gg, 3, none⟩ = some (.bool false) := B2.out.cell 3
        have z3 : w2.frozen? ⟨gg, 3, none⟩ = false := B2.out.frozen 3
        clear HIn HSt
        go_wp2_with fail
        have f : Fr (fun b => b = gg) w2 (w2.setCell ⟨gg, 3, none⟩ (.bool true)) := Fr.setCell (S := fun b => b = gg) (p := ⟨gg, 3, none⟩) (Fr.refl _ w2) (Or.inl rfl) _
        go_ret
        refine ⟨rfl, M.out.turn f (fun b e => by rw [e]; exact qg) (fun b e => by rw [e]; exact p0), B2.out.set 3 _, U2.out.far (p := ⟨gg, 3, none⟩) nug _, fun b hb hne _ => ?_⟩
        exact (f.block b (M.out.lt.2 b hb) hne).trans (M.out.keptQ b hb)
    · have e : gvS F t ⟨true, push⟩ s = (⟨true, (pushS F t push s).1⟩, (pushS F t push s).2) := by
        unfold gvS
        rw [if_neg hd]
        rfl
      have HSt := Lib.hid (pushStep_ok h hc ok hx hu hl hF qu ql p1)
      rw [e]
      simp only
      rw [hdf] at HD
      generalize pushS F t push s = r at *
      clear h hb hu hl hc ok hx e
      go_enter Tryz.func22, Tryz.ntmps22
      go_wp2_with fail
      refine HD.out.mono ?_
      rintro e w' ⟨rfl, rfl⟩
      go_wp2_with fail
      refine HSt.out.mono ?_
      rintro e w2 ⟨rfl, m2, b2, k2⟩
      have M := Lib.hid m2
      have B2 := Lib.hid b2
      have G2 : Hid (Blk w2 gg 164 (gvCells gl gu t slot true)) := Lib.hid ((k2 gg qg (fun e => nug e.symm)).trans HB.out)
      have K2 := Lib.hid k2
      clear m2 b2 k2 HSt c0 c1 c3 c4
      go_wp2_with fail
      go_ret
      exact ⟨rfl, M.out, G2.out, B2.out, fun b hb _ hne => K2.out b hb hne⟩
end
end Go.Proofs.YtfjfeomkmhbpbaaGreat


/- Arena: a Take, its cells and its last parts. Conditions: those that each theorem names. -/
namespace Go.Proofs.YtfjfeomkmhbpbaaGreat
open Go.ChangeShapes Go.WideShapes Go.ChangeAt Go.RowKit
set_option linter.unusedVariables false
/-- A part that is bound to its Take. -/
def tkF (n : FuncId) (gt : Nat) : Value := .func (.func n) #[.pointer (some ⟨gt, 0, none⟩)] #[]
/-- A Take's cells. -/
def tkCells (gl gu gt : Nat) (t : Int) (nx av rc : Value) (dry : Bool) (empty gen : Int) : List Value := [.pointer (some ⟨gl, 0, none⟩), .int .i64 t, nx, .pointer (some ⟨gu, 0, none⟩), av, rc, .bool dry, .int .i64 empty, .int .u64 gen]
/-- What a part leaves. -/
def PartPost (Q : Nat → Prop) (w0 w : World) (gm gt : Nat) (dv pv : Value) (s' : MSt) (cs : List Value) (e : Ending) (w' : World) : Prop :=
  (∃ u, e = .returned u) ∧ IsMem Q w' w0 w' gm dv pv s' ∧ Blk w' gt 170 cs ∧ (∀ b, Q b → b ≠ gt → w'.heap[b]? = w.heap[b]?)
/-- Where a slot's generation lies. -/
def genN (F : Nat → Int) (a : Int) : Int := wordAt (F 4) (F 18) (F 19) (F 20) a 0
theorem genN_rng {F : Nat → Int} (ok : Okay F) (a : Int) : -9223372036854775808 ≤ genN F a ∧ genN F a < 9223372036854775808 := by
  have h : -2000000000 ≤ wordAt (F 4) (F 18) (F 19) (F 20) a 0 ∧ wordAt (F 4) (F 18) (F 19) (F 20) a 0 ≤ 2000000000 := wordAt_rng ok.v0 ok.v1 ok.r18.a ok.r18.d ok.r18.m
  unfold genN
  omega
theorem gen_ok {F : Nat → Int} (ok : Okay F) (gl : Nat) (a : Int) (w : World) (hl : Blk w gl 205 (cellsF F)) :
    Calls Tryz.prog 38 #[.pointer (some ⟨gl, 0, none⟩), .int .i64 a] w fun e w' => e = .returned (.int .i64 (genN F a)) ∧ Ext w w' :=
  tGen_any (some ⟨gl, 0, none⟩) (cellsF F) (F 4) (F 18) (F 19) (F 20) a w (Or.inl ⟨gl, rfl, hl⟩) (cellsF_at F 4 (by omega)) ok.v0 ok.v1 ok.r18.a ok.r18.d ok.r18.m (cellsF_at F 18 (by omega)) (cellsF_at F 19 (by omega)) (cellsF_at F 20 (by omega))
section
variable {Q : Nat → Prop} {w0 w : World} {gm gt gu gl : Nat} {dv pv : Value} {s : MSt} {F : Nat → Int} {t : Int} {nx av rc : Value} {dry : Bool} {empty gen : Int}
set_option maxRecDepth 100000 in
set_option maxHeartbeats 4000000 in
theorem flushPart_ok (h : IsMem Q w w0 w gm dv pv s) (hc : Calm s) (ok : Okay F) (hb : Blk w gt 170 (tkCells gl gu gt t nx av rc dry empty gen)) (hl : Blk w gl 205 (cellsF F)) (qt : Q gt) (ql : Q gl) (p0 : w0.heap.size ≤ gt) {i : Nat} (hi : i ≤ 1000) (fine : Fine i s.dev) :
    Calls Tryz.prog 223 #[.pointer (some ⟨gt, 0, none⟩), .pointer (some ⟨gm, 0, none⟩)] w (PartPost Q w0 w gm gt dv pv (s.flush t (intN F t)) (tkCells gl gu gt t (tkF 237 gt) av rc dry empty gen)) := by
  have HK : Hid (∀ W s', IsMem Q w w0 W gm dv pv s' → Blk W gt 170 (tkCells gl gu gt t nx av rc dry empty gen) ∧ Blk W gl 205 (cellsF F)) := Lib.hid (fun W s' m => ⟨(m.keptQ gt qt).trans hb, (m.keptQ gl ql).trans hl⟩)
  have HP : Hid (∀ W s', IsMem Q w w0 W gm dv pv s' → W.cell? ⟨gt, 0, none⟩ = some (.pointer (some ⟨gl, 0, none⟩)) ∧ W.cell? ⟨gt, 1, none⟩ = some (.int .i64 t)) := Lib.hid (fun W s' m => ⟨(HK.out W s' m).1.cell 0, (HK.out W s' m).1.cell 1⟩)
  have HIn : Hid (∀ W s', IsMem Q w w0 W gm dv pv s' → Calls Tryz.prog 103 #[.pointer (some ⟨gl, 0, none⟩), .int .i64 t] W fun e w' => e = .returned (.int .i64 (intN F t)) ∧ Ext W w') := Lib.hid (fun W s' m => intent_ok ok gl t W (HK.out W s' m).2)
  have har := intN_rng ok t
  have HFl : Hid (∀ W, IsMem Q w w0 W gm dv pv s → Calls Tryz.prog 88 #[.pointer (some ⟨gm, 0, none⟩), .int .i64 t, .int .i64 (intN F t)] W fun e w' => (∃ u, e = .returned u) ∧ IsMem Q w w0 w' gm dv pv (s.flush t (intN F t))) := Lib.hid (fun W m => memFlush_ok m t _ har.2 hi fine hc)
  have c0 : w.cell? ⟨gt, 0, none⟩ = some (.pointer (some ⟨gl, 0, none⟩)) := hb.cell 0
  have c1 : w.cell? ⟨gt, 1, none⟩ = some (.int .i64 t) := hb.cell 1
  have M := Lib.hid (h.ext ((Ext.refl w).drew))
  generalize s.flush t (intN F t) = s1 at *
  generalize intN F t = a at *
  clear h hb hl hc ok har fine
  go_enter Tryz.func223, Tryz.ntmps223
  go_wp2_with fail
  go_region_held3 (fun W => W.cell? ⟨gt, 0, none⟩ = some (.pointer (some ⟨gl, 0, none⟩)) ∧ W.cell? ⟨gt, 1, none⟩ = some (.int .i64 t)) (first | exact HP.out _ _ M.out | go_keep) (first
    | (go_at_call 103; refine (HIn.out _ _ M.out).mono ?_; rintro e w1 ⟨rfl, x1⟩; replace M := Lib.hid (M.out.ext x1); clear x1)
    | (go_at_call 88; refine (HFl.out _ M.out).mono ?_; rintro e w2 ⟨⟨u, rfl⟩, m1⟩; replace M := Lib.hid m1; clear m1))
  all_goals
    have y2 : w2.cell? ⟨gt, 2, none⟩ = some nx := ((HK.out _ _ M.out).1).cell 2
    have z2 : w2.frozen? ⟨gt, 2, none⟩ = false := ((HK.out _ _ M.out).1).frozen 2
    go_wp2_with fail
    have f : Fr (fun b => b = gt) w2 (w2.setCell ⟨gt, 2, none⟩ (tkF 237 gt)) := Fr.setCell (S := fun b => b = gt) (p := ⟨gt, 2, none⟩) (Fr.refl _ w2) (Or.inl rfl) _
    refine bodyPost_end (results_none rfl _ _ _) rfl ?_
    refine ⟨⟨_, rfl⟩, M.out.turn f (fun b e => by rw [e]; exact qt) (fun b e => by rw [e]; exact p0), ((HK.out _ _ M.out).1).set 2 _, fun b hb hne => ?_⟩
    exact (f.block b (M.out.lt.2 b hb) hne).trans (M.out.keptQ b hb)
set_option maxRecDepth 100000 in
set_option maxHeartbeats 4000000 in
theorem fencePart_ok (h : IsMem Q w w0 w gm dv pv s) (hc : Calm s) (ok : Okay F) (hb : Blk w gt 170 (tkCells gl gu gt t nx av rc dry empty gen)) (hl : Blk w gl 205 (cellsF F)) (qt : Q gt) (ql : Q gl) (p0 : w0.heap.size ≤ gt) {i : Nat} (hi : i ≤ 1000) (fine : Fine i s.dev) :
    Calls Tryz.prog 237 #[.pointer (some ⟨gt, 0, none⟩), .pointer (some ⟨gm, 0, none⟩)] w (PartPost Q w0 w gm gt dv pv (s.fence t) (tkCells gl gu gt t (tkF 253 gt) av rc dry empty gen)) := by
  have HK : Hid (∀ W s', IsMem Q w w0 W gm dv pv s' → Blk W gt 170 (tkCells gl gu gt t nx av rc dry empty gen) ∧ Blk W gl 205 (cellsF F)) := Lib.hid (fun W s' m => ⟨(m.keptQ gt qt).trans hb, (m.keptQ gl ql).trans hl⟩)
  have HP : Hid (∀ W s', IsMem Q w w0 W gm dv pv s' → W.cell? ⟨gt, 1, none⟩ = some (.int .i64 t)) := Lib.hid (fun W s' m => (HK.out W s' m).1.cell 1)
  have HFe := Lib.hid (memFence_ok h t hi fine hc)
  have c1 : w.cell? ⟨gt, 1, none⟩ = some (.int .i64 t) := hb.cell 1
  have M := Lib.hid (h.ext ((Ext.refl w).drew))
  generalize s.fence t = s1 at *
  clear h hb hl hc ok fine
  go_enter Tryz.func237, Tryz.ntmps237
  go_wp2_with fail
  refine HFe.out.mono ?_
  rintro e w2 ⟨⟨u, rfl⟩, m1⟩
  have M2 := Lib.hid m1
  clear m1 c1 M
  have y2 : w2.cell? ⟨gt, 2, none⟩ = some nx := ((HK.out _ _ M2.out).1).cell 2
  have z2 : w2.frozen? ⟨gt, 2, none⟩ = false := ((HK.out _ _ M2.out).1).frozen 2
  go_wp2_with fail
  have f : Fr (fun b => b = gt) w2 (w2.setCell ⟨gt, 2, none⟩ (tkF 253 gt)) := Fr.setCell (S := fun b => b = gt) (p := ⟨gt, 2, none⟩) (Fr.refl _ w2) (Or.inl rfl) _
  refine bodyPost_end (results_none rfl _ _ _) rfl ?_
  refine ⟨⟨_, rfl⟩, M2.out.turn f (fun b e => by rw [e]; exact qt) (fun b e => by rw [e]; exact p0), ((HK.out _ _ M2.out).1).set 2 _, fun b hb hne => ?_⟩
  exact (f.block b (M2.out.lt.2 b hb) hne).trans (M2.out.keptQ b hb)
set_option maxRecDepth 100000 in
set_option maxHeartbeats 4000000 in
theorem intendPart_ok (h : IsMem Q w w0 w gm dv pv s) (hc : Calm s) (ok : Okay F) (hb : Blk w gt 170 (tkCells gl gu gt t nx av rc dry empty gen)) (hl : Blk w gl 205 (cellsF F)) (qt : Q gt) (ql : Q gl) (p0 : w0.heap.size ≤ gt) {x : PMs} (hu : Blk w gu 245 (x.cells gl t)) (qu : Q gu) (hd : x.dn = true) (ht : W64 x.top) (hs : 0 ≤ toN x.top) :
    Calls Tryz.prog 185 #[.pointer (some ⟨gt, 0, none⟩), .pointer (some ⟨gm, 0, none⟩)] w (PartPost Q w0 w gm gt dv pv (s.store t (intN F t) (toN x.top + 1)) (tkCells gl gu gt t (tkF 223 gt) av rc dry empty gen)) := by
  have HK : Hid (∀ W s', IsMem Q w w0 W gm dv pv s' → Blk W gt 170 (tkCells gl gu gt t nx av rc dry empty gen) ∧ Blk W gl 205 (cellsF F)) := Lib.hid (fun W s' m => ⟨(m.keptQ gt qt).trans hb, (m.keptQ gl ql).trans hl⟩)
  have HP : Hid (∀ W s', IsMem Q w w0 W gm dv pv s' → W.cell? ⟨gt, 0, none⟩ = some (.pointer (some ⟨gl, 0, none⟩)) ∧ W.cell? ⟨gt, 1, none⟩ = some (.int .i64 t) ∧ W.cell? ⟨gt, 3, none⟩ = some (.pointer (some ⟨gu, 0, none⟩))) := Lib.hid (fun W s' m => ⟨(HK.out W s' m).1.cell 0, (HK.out W s' m).1.cell 1, (HK.out W s' m).1.cell 3⟩)
  have HIn : Hid (∀ W s', IsMem Q w w0 W gm dv pv s' → Calls Tryz.prog 103 #[.pointer (some ⟨gl, 0, none⟩), .int .i64 t] W fun e w' => e = .returned (.int .i64 (intN F t)) ∧ Ext W w') := Lib.hid (fun W s' m => intent_ok ok gl t W (HK.out W s' m).2)
  have har := intN_rng ok t
  have HSl : Hid (∀ W s', IsMem Q w w0 W gm dv pv s' → Calls Tryz.prog 111 #[.pointer (some ⟨gu, 0, none⟩)] W fun e w' => e = .returned (.int .i64 (toN x.top)) ∧ Ext W w') := Lib.hid (fun W s' m => by
    have b : Blk W gu 245 (x.cells gl t) := (m.keptQ gu qu).trans hu
    have := popSlot_ok W gu x.top x.dn ht (b.cell 3) (b.cell 4)
    rw [if_pos hd] at this
    exact this)
  have hs2 : toN x.top < 4294967296 := by unfold toN; omega
  have hw1 : IntKind.i64.wrap (toN x.top + 1) = toN x.top + 1 := i64w _ (by omega) (by omega)
  have hw2 : wrap64 (toN x.top + 1) = toN x.top + 1 := by unfold wrap64; omega
  have hw3 : IntKind.u64.wrap (toN x.top + 1) = toN x.top + 1 := u64w _ (by omega) (by omega)
  have HFl : Hid (∀ W, IsMem Q w w0 W gm dv pv s → Calls Tryz.prog 67 #[.pointer (some ⟨gm, 0, none⟩), .int .i64 t, .int .i64 (intN F t), .int .u64 (toN x.top + 1)] W fun e w' => (∃ u, e = .returned u) ∧ IsMem Q w w0 w' gm dv pv (s.store t (intN F t) (toN x.top + 1))) := Lib.hid (fun W m => memStore_ok m t _ _ har.1 har.2 ⟨by omega, by omega⟩ hc)
  have c0 : w.cell? ⟨gt, 0, none⟩ = some (.pointer (some ⟨gl, 0, none⟩)) := hb.cell 0
  have c1 : w.cell? ⟨gt, 1, none⟩ = some (.int .i64 t) := hb.cell 1
  have c3 : w.cell? ⟨gt, 3, none⟩ = some (.pointer (some ⟨gu, 0, none⟩)) := hb.cell 3
  have M := Lib.hid (h.ext ((Ext.refl w).drew))
  generalize s.store t (intN F t) (toN x.top + 1) = s1 at *
  generalize intN F t = a at *
  generalize toN x.top = sl at *
  clear h hb hl hc ok har hu hd ht hs hs2
  go_enter Tryz.func185, Tryz.ntmps185
  go_wp2_with fail
  go_region_held3 (fun W => W.cell? ⟨gt, 0, none⟩ = some (.pointer (some ⟨gl, 0, none⟩)) ∧ W.cell? ⟨gt, 1, none⟩ = some (.int .i64 t) ∧ W.cell? ⟨gt, 3, none⟩ = some (.pointer (some ⟨gu, 0, none⟩))) (first | exact HP.out _ _ M.out | go_keep) (first
    | (go_at_call 103; refine (HIn.out _ _ M.out).mono ?_; rintro e w1 ⟨rfl, x1⟩; replace M := Lib.hid (M.out.ext x1); clear x1)
    | (go_at_call 111; refine (HSl.out _ _ M.out).mono ?_; rintro e w1 ⟨rfl, x1⟩; replace M := Lib.hid (M.out.ext x1); clear x1)
    | (go_at_call 67; refine (HFl.out _ M.out).mono ?_; rintro e w2 ⟨⟨u, rfl⟩, m1⟩; replace M := Lib.hid m1; clear m1))
  all_goals
    clear hw1 hw2 hw3
    have y2 : w2.cell? ⟨gt, 2, none⟩ = some nx := ((HK.out _ _ M.out).1).cell 2
    have z2 : w2.frozen? ⟨gt, 2, none⟩ = false := ((HK.out _ _ M.out).1).frozen 2
    go_wp2_with fail
    have f : Fr (fun b => b = gt) w2 (w2.setCell ⟨gt, 2, none⟩ (tkF 223 gt)) := Fr.setCell (S := fun b => b = gt) (p := ⟨gt, 2, none⟩) (Fr.refl _ w2) (Or.inl rfl) _
    refine bodyPost_end (results_none rfl _ _ _) rfl ?_
    refine ⟨⟨_, rfl⟩, M.out.turn f (fun b e => by rw [e]; exact qt) (fun b e => by rw [e]; exact p0), ((HK.out _ _ M.out).1).set 2 _, fun b hb hne => ?_⟩
    exact (f.block b (M.out.lt.2 b hb) hne).trans (M.out.keptQ b hb)
set_option maxRecDepth 100000 in
set_option maxHeartbeats 4000000 in
theorem storePart_ok (h : IsMem Q w w0 w gm dv pv s) (hc : Calm s) (ok : Okay F) (hb : Blk w gt 170 (tkCells gl gu gt t nx av rc dry empty gen)) (hl : Blk w gl 205 (cellsF F)) (qt : Q gt) (ql : Q gl) (p0 : w0.heap.size ≤ gt) {x : PMs} (hu : Blk w gu 245 (x.cells gl t)) (qu : Q gu) (hd : x.dn = true) (ht : W64 x.top) (hs : 0 ≤ toN x.top) :
    Calls Tryz.prog 266 #[.pointer (some ⟨gt, 0, none⟩), .pointer (some ⟨gm, 0, none⟩)] w (PartPost Q w0 w gm gt dv pv (s.store t (genN F (toN x.top)) (IntKind.u64.wrap (gen + 1))) (tkCells gl gu gt t .nilFunc av rc dry empty gen)) := by
  have HK : Hid (∀ W s', IsMem Q w w0 W gm dv pv s' → Blk W gt 170 (tkCells gl gu gt t nx av rc dry empty gen) ∧ Blk W gl 205 (cellsF F)) := Lib.hid (fun W s' m => ⟨(m.keptQ gt qt).trans hb, (m.keptQ gl ql).trans hl⟩)
  have HP : Hid (∀ W s', IsMem Q w w0 W gm dv pv s' → W.cell? ⟨gt, 0, none⟩ = some (.pointer (some ⟨gl, 0, none⟩)) ∧ W.cell? ⟨gt, 1, none⟩ = some (.int .i64 t) ∧ W.cell? ⟨gt, 3, none⟩ = some (.pointer (some ⟨gu, 0, none⟩)) ∧ W.cell? ⟨gt, 8, none⟩ = some (.int .u64 gen)) := Lib.hid (fun W s' m => ⟨(HK.out W s' m).1.cell 0, (HK.out W s' m).1.cell 1, (HK.out W s' m).1.cell 3, (HK.out W s' m).1.cell 8⟩)
  have HGe : Hid (∀ W s', IsMem Q w w0 W gm dv pv s' → Calls Tryz.prog 38 #[.pointer (some ⟨gl, 0, none⟩), .int .i64 (toN x.top)] W fun e w' => e = .returned (.int .i64 (genN F (toN x.top))) ∧ Ext W w') := Lib.hid (fun W s' m => gen_ok ok gl _ W (HK.out W s' m).2)
  have har := genN_rng ok (toN x.top)
  have HSl : Hid (∀ W s', IsMem Q w w0 W gm dv pv s' → Calls Tryz.prog 111 #[.pointer (some ⟨gu, 0, none⟩)] W fun e w' => e = .returned (.int .i64 (toN x.top)) ∧ Ext W w') := Lib.hid (fun W s' m => by
    have b : Blk W gu 245 (x.cells gl t) := (m.keptQ gu qu).trans hu
    have := popSlot_ok W gu x.top x.dn ht (b.cell 3) (b.cell 4)
    rw [if_pos hd] at this
    exact this)
  have hs2 : toN x.top < 4294967296 := by unfold toN; omega
  have HFl : Hid (∀ W, IsMem Q w w0 W gm dv pv s → Calls Tryz.prog 67 #[.pointer (some ⟨gm, 0, none⟩), .int .i64 t, .int .i64 (genN F (toN x.top)), .int .u64 (IntKind.u64.wrap (gen + 1))] W fun e w' => (∃ u, e = .returned u) ∧ IsMem Q w w0 w' gm dv pv (s.store t (genN F (toN x.top)) (IntKind.u64.wrap (gen + 1)))) := Lib.hid (fun W m => memStore_ok m t _ _ har.1 har.2 (by unfold IntKind.wrap; simp [IntKind.signed, IntKind.bits]; omega) hc)
  have c0 : w.cell? ⟨gt, 0, none⟩ = some (.pointer (some ⟨gl, 0, none⟩)) := hb.cell 0
  have c1 : w.cell? ⟨gt, 1, none⟩ = some (.int .i64 t) := hb.cell 1
  have c3 : w.cell? ⟨gt, 3, none⟩ = some (.pointer (some ⟨gu, 0, none⟩)) := hb.cell 3
  have c8 : w.cell? ⟨gt, 8, none⟩ = some (.int .u64 gen) := hb.cell 8
  have M := Lib.hid (h.ext ((Ext.refl w).drew))
  generalize s.store t (genN F (toN x.top)) (IntKind.u64.wrap (gen + 1)) = s1 at *
  generalize genN F (toN x.top) = a at *
  generalize toN x.top = sl at *
  clear h hb hl hc ok har hu hd ht hs hs2
  go_enter Tryz.func266, Tryz.ntmps266
  go_wp2_with fail
  go_region_held3 (fun W => W.cell? ⟨gt, 0, none⟩ = some (.pointer (some ⟨gl, 0, none⟩)) ∧ W.cell? ⟨gt, 1, none⟩ = some (.int .i64 t) ∧ W.cell? ⟨gt, 3, none⟩ = some (.pointer (some ⟨gu, 0, none⟩)) ∧ W.cell? ⟨gt, 8, none⟩ = some (.int .u64 gen)) (first | exact HP.out _ _ M.out | go_keep) (first
    | (go_at_call 38; refine (HGe.out _ _ M.out).mono ?_; rintro e w1 ⟨rfl, x1⟩; replace M := Lib.hid (M.out.ext x1); clear x1)
    | (go_at_call 111; refine (HSl.out _ _ M.out).mono ?_; rintro e w1 ⟨rfl, x1⟩; replace M := Lib.hid (M.out.ext x1); clear x1)
    | (go_at_call 67; refine (HFl.out _ M.out).mono ?_; rintro e w2 ⟨⟨u, rfl⟩, m1⟩; replace M := Lib.hid m1; clear m1))
  all_goals
    have y2 : w2.cell? ⟨gt, 2, none⟩ = some nx := ((HK.out _ _ M.out).1).cell 2
    have z2 : w2.frozen? ⟨gt, 2, none⟩ = false := ((HK.out _ _ M.out).1).frozen 2
    go_wp2_with fail
    have f : Fr (fun b => b = gt) w2 (w2.setCell ⟨gt, 2, none⟩ Value.nilFunc) := Fr.setCell (S := fun b => b = gt) (p := ⟨gt, 2, none⟩) (Fr.refl _ w2) (Or.inl rfl) _
    refine bodyPost_end (results_none rfl _ _ _) rfl ?_
    refine ⟨⟨_, rfl⟩, M.out.turn f (fun b e => by rw [e]; exact qt) (fun b e => by rw [e]; exact p0), ((HK.out _ _ M.out).1).set 2 _, fun b hb hne => ?_⟩
    exact (f.block b (M.out.lt.2 b hb) hne).trans (M.out.keptQ b hb)
set_option maxRecDepth 100000 in
set_option maxHeartbeats 4000000 in
theorem loadPart_ok (h : IsMem Q w w0 w gm dv pv s) (hc : Calm s) (ok : Okay F) (hb : Blk w gt 170 (tkCells gl gu gt t nx av rc dry empty gen)) (hl : Blk w gl 205 (cellsF F)) (qt : Q gt) (ql : Q gl) (p0 : w0.heap.size ≤ gt) {x : PMs} (hu : Blk w gu 245 (x.cells gl t)) (qu : Q gu) (hd : x.dn = true) (ht : W64 x.top) (hs : 0 ≤ toN x.top) :
    Calls Tryz.prog 253 #[.pointer (some ⟨gt, 0, none⟩), .pointer (some ⟨gm, 0, none⟩)] w (PartPost Q w0 w gm gt dv pv (s.load t (genN F (toN x.top))) (tkCells gl gu gt t (tkF 266 gt) av rc dry empty (peekV s (genN F (toN x.top))))) := by
  have HK : Hid (∀ W s', IsMem Q w w0 W gm dv pv s' → Blk W gt 170 (tkCells gl gu gt t nx av rc dry empty gen) ∧ Blk W gl 205 (cellsF F)) := Lib.hid (fun W s' m => ⟨(m.keptQ gt qt).trans hb, (m.keptQ gl ql).trans hl⟩)
  have HP : Hid (∀ W s', IsMem Q w w0 W gm dv pv s' → W.cell? ⟨gt, 0, none⟩ = some (.pointer (some ⟨gl, 0, none⟩)) ∧ W.cell? ⟨gt, 1, none⟩ = some (.int .i64 t) ∧ W.cell? ⟨gt, 3, none⟩ = some (.pointer (some ⟨gu, 0, none⟩))) := Lib.hid (fun W s' m => ⟨(HK.out W s' m).1.cell 0, (HK.out W s' m).1.cell 1, (HK.out W s' m).1.cell 3⟩)
  have HGe : Hid (∀ W s', IsMem Q w w0 W gm dv pv s' → Calls Tryz.prog 38 #[.pointer (some ⟨gl, 0, none⟩), .int .i64 (toN x.top)] W fun e w' => e = .returned (.int .i64 (genN F (toN x.top))) ∧ Ext W w') := Lib.hid (fun W s' m => gen_ok ok gl _ W (HK.out W s' m).2)
  have har := genN_rng ok (toN x.top)
  have HSl : Hid (∀ W s', IsMem Q w w0 W gm dv pv s' → Calls Tryz.prog 111 #[.pointer (some ⟨gu, 0, none⟩)] W fun e w' => e = .returned (.int .i64 (toN x.top)) ∧ Ext W w') := Lib.hid (fun W s' m => by
    have b : Blk W gu 245 (x.cells gl t) := (m.keptQ gu qu).trans hu
    have := popSlot_ok W gu x.top x.dn ht (b.cell 3) (b.cell 4)
    rw [if_pos hd] at this
    exact this)
  have hs2 : toN x.top < 4294967296 := by unfold toN; omega
  have HP8 : Hid (∀ W s' v, IsMem Q w w0 W gm dv pv s' → (W.setCell ⟨gt, 8, none⟩ v).cell? ⟨gt, 0, none⟩ = some (.pointer (some ⟨gl, 0, none⟩)) ∧ (W.setCell ⟨gt, 8, none⟩ v).cell? ⟨gt, 1, none⟩ = some (.int .i64 t) ∧ (W.setCell ⟨gt, 8, none⟩ v).cell? ⟨gt, 3, none⟩ = some (.pointer (some ⟨gu, 0, none⟩))) := Lib.hid (fun W s' v m => ⟨((HK.out W s' m).1.set 8 v).cell 0, ((HK.out W s' m).1.set 8 v).cell 1, ((HK.out W s' m).1.set 8 v).cell 3⟩)
  have HFl : Hid (∀ W, IsMem Q w w0 W gm dv pv s → Calls Tryz.prog 86 #[.pointer (some ⟨gm, 0, none⟩), .int .i64 t, .int .i64 (genN F (toN x.top))] W fun e w' => e = .returned (.int .u64 (peekV s (genN F (toN x.top)))) ∧ IsMem Q w w0 w' gm dv pv (s.load t (genN F (toN x.top)))) := Lib.hid (fun W m => memLoad_ok m t _ har.1 har.2 hc)
  have c0 : w.cell? ⟨gt, 0, none⟩ = some (.pointer (some ⟨gl, 0, none⟩)) := hb.cell 0
  have c1 : w.cell? ⟨gt, 1, none⟩ = some (.int .i64 t) := hb.cell 1
  have c3 : w.cell? ⟨gt, 3, none⟩ = some (.pointer (some ⟨gu, 0, none⟩)) := hb.cell 3
  have M := Lib.hid (h.ext ((Ext.refl w).drew))
  generalize peekV s (genN F (toN x.top)) = ge at *
  generalize s.load t (genN F (toN x.top)) = s1 at *
  generalize genN F (toN x.top) = a at *
  generalize toN x.top = sl at *
  clear h hb hl hc ok har hu hd ht hs hs2
  go_enter Tryz.func253, Tryz.ntmps253
  go_wp2_with fail
  go_region_held3 (fun W => W.cell? ⟨gt, 0, none⟩ = some (.pointer (some ⟨gl, 0, none⟩)) ∧ W.cell? ⟨gt, 1, none⟩ = some (.int .i64 t) ∧ W.cell? ⟨gt, 3, none⟩ = some (.pointer (some ⟨gu, 0, none⟩))) (first | exact HP.out _ _ M.out | exact HP8.out _ _ _ M.out | go_keep) (first
    | (go_at_call 38; refine (HGe.out _ _ M.out).mono ?_; rintro e w1 ⟨rfl, x1⟩; replace M := Lib.hid (M.out.ext x1); clear x1)
    | (go_at_call 111; refine (HSl.out _ _ M.out).mono ?_; rintro e w1 ⟨rfl, x1⟩; replace M := Lib.hid (M.out.ext x1); clear x1)
    | (go_at_call 86; refine (HFl.out _ M.out).mono ?_; rintro e w2 ⟨rfl, m1⟩; replace M := Lib.hid m1; have y8 : w2.cell? ⟨gt, 8, none⟩ = some (.int .u64 gen) := ((HK.out _ _ m1).1).cell 8; have z8 : w2.frozen? ⟨gt, 8, none⟩ = false := ((HK.out _ _ m1).1).frozen 8; clear m1))
  all_goals
    have f8 : Fr (fun b => b = gt) w2 (w2.setCell ⟨gt, 8, none⟩ (.int .u64 ge)) := Fr.setCell (S := fun b => b = gt) (p := ⟨gt, 8, none⟩) (Fr.refl _ w2) (Or.inl rfl) _
    have B8 : Hid (Blk (w2.setCell ⟨gt, 8, none⟩ (.int .u64 ge)) gt 170 (tkCells gl gu gt t nx av rc dry empty ge)) := Lib.hid (((HK.out _ _ M.out).1).set 8 (.int .u64 ge))
    have M8 := Lib.hid (M.out.turn f8 (fun b e => by rw [e]; exact qt) (fun b e => by rw [e]; exact p0))
    have K8 : Hid (∀ b, Q b → b ≠ gt → (w2.setCell ⟨gt, 8, none⟩ (.int .u64 ge)).heap[b]? = w.heap[b]?) := Lib.hid (fun b hb hne => (f8.block b (M.out.lt.2 b hb) hne).trans (M.out.keptQ b hb))
    clear f8 y8 z8 M
    generalize w2.setCell ⟨gt, 8, none⟩ (.int .u64 ge) = w3 at *
    have y2 : w3.cell? ⟨gt, 2, none⟩ = some nx := B8.out.cell 2
    have z2 : w3.frozen? ⟨gt, 2, none⟩ = false := B8.out.frozen 2
    go_wp2_with fail
    have f : Fr (fun b => b = gt) w3 (w3.setCell ⟨gt, 2, none⟩ (tkF 266 gt)) := Fr.setCell (S := fun b => b = gt) (p := ⟨gt, 2, none⟩) (Fr.refl _ w3) (Or.inl rfl) _
    refine bodyPost_end (results_none rfl _ _ _) rfl ?_
    refine ⟨⟨_, rfl⟩, M8.out.turn f (fun b e => by rw [e]; exact qt) (fun b e => by rw [e]; exact p0), B8.out.set 2 _, fun b hb hne => ?_⟩
    exact (f.block b (M8.out.lt.2 b hb) hne).trans (K8.out b hb hne)
end
end Go.Proofs.YtfjfeomkmhbpbaaGreat

