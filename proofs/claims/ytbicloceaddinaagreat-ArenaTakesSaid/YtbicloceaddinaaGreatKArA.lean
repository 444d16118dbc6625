/- Arena: a Give, its parts. Conditions: those that each theorem names. -/
import Derived.Test.YtbicloceaddinaaGreatKRetC
import Derived.Deep.RegionHeld3
namespace Go.Proofs.YtbicloceaddinaaGreat
open Go.ChangeShapes Go.WideShapes Go.ChangeAt Go.RowKit
set_option linter.unusedVariables false
/-- Where a thread's intent lies. -/
def intN (F : Nat → Int) (t : Int) : Int := wordAt (F 4) (F 12) (F 13) (F 14) t 1
theorem intN_rng {F : Nat → Int} (ok : Okay F) (t : Int) : -9223372036854775808 ≤ intN F t ∧ intN F t < 9223372036854775808 := by
  have ha : Small (F 12) := ok.r12.a
  have hdd : -1000 ≤ F 13 ∧ F 13 ≤ 1000 := ok.r12.d
  have hm : F 14 ≤ 65536 := ok.r12.m
  obtain ⟨a0, a1⟩ := ha
  obtain ⟨d0, d1⟩ := hdd
  have h0 := ok.v0
  have h1 := ok.v1
  unfold intN wordAt
  split
  · rename_i h
    obtain ⟨n0, n1⟩ := h
    have e1 : t * F 13 ≤ t * 1000 := Int.mul_le_mul_of_nonneg_left d1 n0
    have e2 : t * (-1000) ≤ t * F 13 := Int.mul_le_mul_of_nonneg_left d0 n0
    omega
  · omega
theorem intent_ok {F : Nat → Int} (ok : Okay F) (gl : Nat) (n : Int) (w : World) (hl : Blk w gl 173 (cellsF F)) :
    Calls Tryz.prog 202 #[.pointer (some ⟨gl, 0, none⟩), .int .i64 n] w fun e w' => e = .returned (.int .i64 (intN F n)) ∧ Ext w w' :=
  tIntent_any (some ⟨gl, 0, none⟩) (cellsF F) (F 4) (F 12) (F 13) (F 14) n w (Or.inl ⟨gl, rfl, hl⟩) (cellsF_at F 4 (by omega)) ok.v0 ok.v1 ok.r12.a ok.r12.d ok.r12.m (cellsF_at F 12 (by omega)) (cellsF_at F 13 (by omega)) (cellsF_at F 14 (by omega))
/-- A Give: whether the intent is dropped, and its Push. -/
structure GvM where
  dropped : Bool
  push : PMs
section
variable {Q : Nat → Prop} {w0 w : World} {gm gg gu gl : Nat} {dv pv : Value} {s : MSt} {F : Nat → Int} {t slot : Int} {x : GvM}
end
end Go.Proofs.YtbicloceaddinaaGreat


/- Arena: a Take, its cells and its last parts. Conditions: those that each theorem names. -/
namespace Go.Proofs.YtbicloceaddinaaGreat
open Go.ChangeShapes Go.WideShapes Go.ChangeAt Go.RowKit
set_option linter.unusedVariables false
/-- A part that is bound to its Take. -/
def tkF (n : FuncId) (gt : Nat) : Value := .func (.func n) #[.pointer (some ⟨gt, 0, none⟩)] #[]
/-- A Take's cells. -/
def tkCells (gl gu gt : Nat) (t : Int) (nx av rc : Value) (dry : Bool) (empty gen : Int) : List Value := [.pointer (some ⟨gl, 0, none⟩), .int .i64 t, nx, .pointer (some ⟨gu, 0, none⟩), av, rc, .bool dry, .int .i64 empty, .int .u64 gen]
/-- What a part leaves. -/
def PartPost (Q : Nat → Prop) (w0 w : World) (gm gt : Nat) (dv pv : Value) (s' : MSt) (cs : List Value) (e : Ending) (w' : World) : Prop :=
  (∃ u, e = .returned u) ∧ IsMem Q w' w0 w' gm dv pv s' ∧ Blk w' gt 149 cs ∧ (∀ b, Q b → b ≠ gt → w'.heap[b]? = w.heap[b]?)
/-- Where a slot's generation lies. -/
def genN (F : Nat → Int) (a : Int) : Int := wordAt (F 4) (F 18) (F 19) (F 20) a 0
theorem genN_rng {F : Nat → Int} (ok : Okay F) (a : Int) : -9223372036854775808 ≤ genN F a ∧ genN F a < 9223372036854775808 := by
  have h : -2000000000 ≤ wordAt (F 4) (F 18) (F 19) (F 20) a 0 ∧ wordAt (F 4) (F 18) (F 19) (F 20) a 0 ≤ 2000000000 := wordAt_rng ok.v0 ok.v1 ok.r18.a ok.r18.d ok.r18.m
  unfold genN
  omega
theorem gen_ok {F : Nat → Int} (ok : Okay F) (gl : Nat) (a : Int) (w : World) (hl : Blk w gl 173 (cellsF F)) :
    Calls Tryz.prog 89 #[.pointer (some ⟨gl, 0, none⟩), .int .i64 a] w fun e w' => e = .returned (.int .i64 (genN F a)) ∧ Ext w w' :=
  tGen_any (some ⟨gl, 0, none⟩) (cellsF F) (F 4) (F 18) (F 19) (F 20) a w (Or.inl ⟨gl, rfl, hl⟩) (cellsF_at F 4 (by omega)) ok.v0 ok.v1 ok.r18.a ok.r18.d ok.r18.m (cellsF_at F 18 (by omega)) (cellsF_at F 19 (by omega)) (cellsF_at F 20 (by omega))
section
variable {Q : Nat → Prop} {w0 w : World} {gm gt gu gl : Nat} {dv pv : Value} {s : MSt} {F : Nat → Int} {t : Int} {nx av rc : Value} {dry : Bool} {empty gen : Int}
set_option maxRecDepth 100000 in
set_option maxHeartbeats 4000000 in
theorem flushPart_ok (h : IsMem Q w w0 w gm dv pv s) (hc : Calm s) (ok : Okay F) (hb : Blk w gt 149 (tkCells gl gu gt t nx av rc dry empty gen)) (hl : Blk w gl 173 (cellsF F)) (qt : Q gt) (ql : Q gl) (p0 : w0.heap.size ≤ gt) {i : Nat} (hi : i ≤ 1000) (fine : Fine i s.dev) :
    Calls Tryz.prog 203 #[.pointer (some ⟨gt, 0, none⟩), .pointer (some ⟨gm, 0, none⟩)] w (PartPost Q w0 w gm gt dv pv (s.flush t (intN F t)) (tkCells gl gu gt t (tkF 224 gt) av rc dry empty gen)) := by
  have HK : Hid (∀ W s', IsMem Q w w0 W gm dv pv s' → Blk W gt 149 (tkCells gl gu gt t nx av rc dry empty gen) ∧ Blk W gl 173 (cellsF F)) := Lib.hid (fun W s' m => ⟨(m.keptQ gt qt).trans hb, (m.keptQ gl ql).trans hl⟩)
  have HP : Hid (∀ W s', IsMem Q w w0 W gm dv pv s' → W.cell? ⟨gt, 0, none⟩ = some (.pointer (some ⟨gl, 0, none⟩)) ∧ W.cell? ⟨gt, 1, none⟩ = some (.int .i64 t)) := Lib.hid (fun W s' m => ⟨(HK.out W s' m).1.cell 0, (HK.out W s' m).1.cell 1⟩)
  have HIn : Hid (∀ W s', IsMem Q w w0 W gm dv pv s' → Calls Tryz.prog 202 #[.pointer (some ⟨gl, 0, none⟩), .int .i64 t] W fun e w' => e = .returned (.int .i64 (intN F t)) ∧ Ext W w') := Lib.hid (fun W s' m => intent_ok ok gl t W (HK.out W s' m).2)
  have har := intN_rng ok t
  have HFl : Hid (∀ W, IsMem Q w w0 W gm dv pv s → Calls Tryz.prog 71 #[.pointer (some ⟨gm, 0, none⟩), .int .i64 t, .int .i64 (intN F t)] W fun e w' => (∃ u, e = .returned u) ∧ IsMem Q w w0 w' gm dv pv (s.flush t (intN F t))) := Lib.hid (fun W m => memFlush_ok m t _ har.2 hi fine hc)
  have c0 : w.cell? ⟨gt, 0, none⟩ = some (.pointer (some ⟨gl, 0, none⟩)) := hb.cell 0
  have c1 : w.cell? ⟨gt, 1, none⟩ = some (.int .i64 t) := hb.cell 1
  have M := Lib.hid (h.ext ((Ext.refl w).drew))
  generalize s.flush t (intN F t) = s1 at *
  generalize intN F t = a at *
  clear h hb hl hc ok har fine
  go_enter Tryz.func203, Tryz.ntmps203
  go_wp2_with fail
  go_region_held3 (fun W => W.cell? ⟨gt, 0, none⟩ = some (.pointer (some ⟨gl, 0, none⟩)) ∧ W.cell? ⟨gt, 1, none⟩ = some (.int .i64 t)) (first | exact HP.out _ _ M.out | go_keep) (first
    | (go_at_call 202; refine (HIn.out _ _ M.out).mono ?_; rintro e w1 ⟨rfl, x1⟩; replace M := Lib.hid (M.out.ext x1); clear x1)
    | (go_at_call 71; refine (HFl.out _ M.out).mono ?_; rintro e w2 ⟨⟨u, rfl⟩, m1⟩; replace M := Lib.hid m1; clear m1))
  all_goals
    have y2 : w2.cell? ⟨gt, 2, none⟩ = some nx := ((HK.out _ _ M.out).1).cell 2
    have z2 : w2.frozen? ⟨gt, 2, none⟩ = false := ((HK.out _ _ M.out).1).frozen 2
    go_wp2_with fail
    have f : Fr (fun b => b = gt) w2 (w2.setCell ⟨gt, 2, none⟩ (tkF 224 gt)) := Fr.setCell (S := fun b => b = gt) (p := ⟨gt, 2, none⟩) (Fr.refl _ w2) (Or.inl rfl) _
    refine bodyPost_end (results_none rfl _ _ _) rfl ?_
    refine ⟨⟨_, rfl⟩, M.out.turn f (fun b e => by rw [e]; exact qt) (fun b e => by rw [e]; exact p0), ((HK.out _ _ M.out).1).set 2 _, fun b hb hne => ?_⟩
    exact (f.block b (M.out.lt.2 b hb) hne).trans (M.out.keptQ b hb)
set_option maxRecDepth 100000 in
set_option maxHeartbeats 4000000 in
theorem fencePart_ok (h : IsMem Q w w0 w gm dv pv s) (hc : Calm s) (ok : Okay F) (hb : Blk w gt 149 (tkCells gl gu gt t nx av rc dry empty gen)) (hl : Blk w gl 173 (cellsF F)) (qt : Q gt) (ql : Q gl) (p0 : w0.heap.size ≤ gt) {i : Nat} (hi : i ≤ 1000) (fine : Fine i s.dev) :
    Calls Tryz.prog 224 #[.pointer (some ⟨gt, 0, none⟩), .pointer (some ⟨gm, 0, none⟩)] w (PartPost Q w0 w gm gt dv pv (s.fence t) (tkCells gl gu gt t (tkF 240 gt) av rc dry empty gen)) := by
  have HK : Hid (∀ W s', IsMem Q w w0 W gm dv pv s' → Blk W gt 149 (tkCells gl gu gt t nx av rc dry empty gen) ∧ Blk W gl 173 (cellsF F)) := Lib.hid (fun W s' m => ⟨(m.keptQ gt qt).trans hb, (m.keptQ gl ql).trans hl⟩)
  have HP : Hid (∀ W s', IsMem Q w w0 W gm dv pv s' → W.cell? ⟨gt, 1, none⟩ = some (.int .i64 t)) := Lib.hid (fun W s' m => (HK.out W s' m).1.cell 1)
  have HFe := Lib.hid (memFence_ok h t hi fine hc)
  have c1 : w.cell? ⟨gt, 1, none⟩ = some (.int .i64 t) := hb.cell 1
  have M := Lib.hid (h.ext ((Ext.refl w).drew))
  generalize s.fence t = s1 at *
  clear h hb hl hc ok fine
  go_enter Tryz.func224, Tryz.ntmps224
  go_wp2_with fail
  refine HFe.out.mono ?_
  rintro e w2 ⟨⟨u, rfl⟩, m1⟩
  have M2 := Lib.hid m1
  clear m1 c1 M
  have y2 : w2.cell? ⟨gt, 2, none⟩ = some nx := ((HK.out _ _ M2.out).1).cell 2
  have z2 : w2.frozen? ⟨gt, 2, none⟩ = false := ((HK.out _ _ M2.out).1).frozen 2
  go_wp2_with fail
  have f : Fr (fun b => b = gt) w2 (w2.setCell ⟨gt, 2, none⟩ (tkF 240 gt)) := Fr.setCell (S := fun b => b = gt) (p := ⟨gt, 2, none⟩) (Fr.refl _ w2) (Or.inl rfl) _
  refine bodyPost_end (results_none rfl _ _ _) rfl ?_
  refine ⟨⟨_, rfl⟩, M2.out.turn f (fun b e => by rw [e]; exact qt) (fun b e => by rw [e]; exact p0), ((HK.out _ _ M2.out).1).set 2 _, fun b hb hne => ?_⟩
  exact (f.block b (M2.out.lt.2 b hb) hne).trans (M2.out.keptQ b hb)
set_option maxRecDepth 100000 in
set_option maxHeartbeats 4000000 in
theorem intendPart_ok (h : IsMem Q w w0 w gm dv pv s) (hc : Calm s) (ok : Okay F) (hb : Blk w gt 149 (tkCells gl gu gt t nx av rc dry empty gen)) (hl : Blk w gl 173 (cellsF F)) (qt : Q gt) (ql : Q gl) (p0 : w0.heap.size ≤ gt) {x : PMs} (hu : Blk w gu 217 (x.cells gl t)) (qu : Q gu) (hd : x.dn = true) (ht : W64 x.top) (hs : 0 ≤ toN x.top) :
    Calls Tryz.prog 158 #[.pointer (some ⟨gt, 0, none⟩), .pointer (some ⟨gm, 0, none⟩)] w (PartPost Q w0 w gm gt dv pv (s.store t (intN F t) (toN x.top + 1)) (tkCells gl gu gt t (tkF 203 gt) av rc dry empty gen)) := by
  have HK : Hid (∀ W s', IsMem Q w w0 W gm dv pv s' → Blk W gt 149 (tkCells gl gu gt t nx av rc dry empty gen) ∧ Blk W gl 173 (cellsF F)) := Lib.hid (fun W s' m => ⟨(m.keptQ gt qt).trans hb, (m.keptQ gl ql).trans hl⟩)
  have HP : Hid (∀ W s', IsMem Q w w0 W gm dv pv s' → W.cell? ⟨gt, 0, none⟩ = some (.pointer (some ⟨gl, 0, none⟩)) ∧ W.cell? ⟨gt, 1, none⟩ = some (.int .i64 t) ∧ W.cell? ⟨gt, 3, none⟩ = some (.pointer (some ⟨gu, 0, none⟩))) := Lib.hid (fun W s' m => ⟨(HK.out W s' m).1.cell 0, (HK.out W s' m).1.cell 1, (HK.out W s' m).1.cell 3⟩)
  have HIn : Hid (∀ W s', IsMem Q w w0 W gm dv pv s' → Calls Tryz.prog 202 #[.pointer (some ⟨gl, 0, none⟩), .int .i64 t] W fun e w' => e = .returned (.int .i64 (intN F t)) ∧ Ext W w') := Lib.hid (fun W s' m => intent_ok ok gl t W (HK.out W s' m).2)
  have har := intN_rng ok t
  have HSl : Hid (∀ W s', IsMem Q w w0 W gm dv pv s' → Calls Tryz.prog 95 #[.pointer (some ⟨gu, 0, none⟩)] W fun e w' => e = .returned (.int .i64 (toN x.top)) ∧ Ext W w') := Lib.hid (fun W s' m => by
    have b : Blk W gu 217 (x.cells gl t) := (m.keptQ gu qu).trans hu
    have := popSlot_ok W gu x.top x.dn ht (b.cell 3) (b.cell 4)
    rw [if_pos hd] at this
    exact this)
  have hs2 : toN x.top < 4294967296 := by unfold toN; omega
  have hw1 : IntKind.i64.wrap (toN x.top + 1) = toN x.top + 1 := i64w _ (by omega) (by omega)
  have hw2 : wrap64 (toN x.top + 1) = toN x.top + 1 := by unfold wrap64; omega
  have hw3 : IntKind.u64.wrap (toN x.top + 1) = toN x.top + 1 := u64w _ (by omega) (by omega)
  have HFl : Hid (∀ W, IsMem Q w w0 W gm dv pv s → Calls Tryz.prog 49 #[.pointer (some ⟨gm, 0, none⟩), .int .i64 t, .int .i64 (intN F t), .int .u64 (toN x.top + 1)] W fun e w' => (∃ u, e = .returned u) ∧ IsMem Q w w0 w' gm dv pv (s.store t (intN F t) (toN x.top + 1))) := Lib.hid (fun W m => memStore_ok m t _ _ har.1 har.2 ⟨by omega, by omega⟩ hc)
  have c0 : w.cell? ⟨gt, 0, none⟩ = some (.pointer (some ⟨gl, 0, none⟩)) := hb.cell 0
  have c1 : w.cell? ⟨gt, 1, none⟩ = some (.int .i64 t) := hb.cell 1
  have c3 : w.cell? ⟨gt, 3, none⟩ = some (.pointer (some ⟨gu, 0, none⟩)) := hb.cell 3
  have M := Lib.hid (h.ext ((Ext.refl w).drew))
  generalize s.store t (intN F t) (toN x.top + 1) = s1 at *
  generalize intN F t = a at *
  generalize toN x.top = sl at *
  clear h hb hl hc ok har hu hd ht hs hs2
  go_enter Tryz.func158, Tryz.ntmps158
  go_wp2_with fail
  go_region_held3 (fun W => W.cell? ⟨gt, 0, none⟩ = some (.pointer (some ⟨gl, 0, none⟩)) ∧ W.cell? ⟨gt, 1, none⟩ = some (.int .i64 t) ∧ W.cell? ⟨gt, 3, none⟩ = some (.pointer (some ⟨gu, 0, none⟩))) (first | exact HP.out _ _ M.out | go_keep) (first
    | (go_at_call 202; refine (HIn.out _ _ M.out).mono ?_; rintro e w1 ⟨rfl, x1⟩; replace M := Lib.hid (M.out.ext x1); clear x1)
    | (go_at_call 95; refine (HSl.out _ _ M.out).mono ?_; rintro e w1 ⟨rfl, x1⟩; replace M := Lib.hid (M.out.ext x1); clear x1)
    | (go_at_call 49; refine (HFl.out _ M.out).mono ?_; rintro e w2 ⟨⟨u, rfl⟩, m1⟩; replace M := Lib.hid m1; clear m1))
  all_goals
    clear hw1 hw2 hw3
    have y2 : w2.cell? ⟨gt, 2, none⟩ = some nx := ((HK.out _ _ M.out).1).cell 2
    have z2 : w2.frozen? ⟨gt, 2, none⟩ = false := ((HK.out _ _ M.out).1).frozen 2
    go_wp2_with fail
    have f : Fr (fun b => b = gt) w2 (w2.setCell ⟨gt, 2, none⟩ (tkF 203 gt)) := Fr.setCell (S := fun b => b = gt) (p := ⟨gt, 2, none⟩) (Fr.refl _ w2) (Or.inl rfl) _
    refine bodyPost_end (results_none rfl _ _ _) rfl ?_
    refine ⟨⟨_, rfl⟩, M.out.turn f (fun b e => by rw [e]; exact qt) (fun b e => by rw [e]; exact p0), ((HK.out _ _ M.out).1).set 2 _, fun b hb hne => ?_⟩
    exact (f.block b (M.out.lt.2 b hb) hne).trans (M.out.keptQ b hb)
set_option maxRecDepth 100000 in
set_option maxHeartbeats 4000000 in
theorem storePart_ok (h : IsMem Q w w0 w gm dv pv s) (hc : Calm s) (ok : Okay F) (hb : Blk w gt 149 (tkCells gl gu gt t nx av rc dry empty gen)) (hl : Blk w gl 173 (cellsF F)) (qt : Q gt) (ql : Q gl) (p0 : w0.heap.size ≤ gt) {x : PMs} (hu : Blk w gu 217 (x.cells gl t)) (qu : Q gu) (hd : x.dn = true) (ht : W64 x.top) (hs : 0 ≤ toN x.top) :
    Calls Tryz.prog 253 #[.pointer (some ⟨gt, 0, none⟩), .pointer (some ⟨gm, 0, none⟩)] w (PartPost Q w0 w gm gt dv pv (s.store t (genN F (toN x.top)) (IntKind.u64.wrap (gen + 1))) (tkCells gl gu gt t .nilFunc av rc dry empty gen)) := by
  have HK : Hid (∀ W s', IsMem Q w w0 W gm dv pv s' → Blk W gt 149 (tkCells gl gu gt t nx av rc dry empty gen) ∧ Blk W gl 173 (cellsF F)) := Lib.hid (fun W s' m => ⟨(m.keptQ gt qt).trans hb, (m.keptQ gl ql).trans hl⟩)
  have HP : Hid (∀ W s', IsMem Q w w0 W gm dv pv s' → W.cell? ⟨gt, 0, none⟩ = some (.pointer (some ⟨gl, 0, none⟩)) ∧ W.cell? ⟨gt, 1, none⟩ = some (.int .i64 t) ∧ W.cell? ⟨gt, 3, none⟩ = some (.pointer (some ⟨gu, 0, none⟩)) ∧ W.cell? ⟨gt, 8, none⟩ = some (.int .u64 gen)) := Lib.hid (fun W s' m => ⟨(HK.out W s' m).1.cell 0, (HK.out W s' m).1.cell 1, (HK.out W s' m).1.cell 3, (HK.out W s' m).1.cell 8⟩)
  have HGe : Hid (∀ W s', IsMem Q w w0 W gm dv pv s' → Calls Tryz.prog 89 #[.pointer (some ⟨gl, 0, none⟩), .int .i64 (toN x.top)] W fun e w' => e = .returned (.int .i64 (genN F (toN x.top))) ∧ Ext W w') := Lib.hid (fun W s' m => gen_ok ok gl _ W (HK.out W s' m).2)
  have har := genN_rng ok (toN x.top)
  have HSl : Hid (∀ W s', IsMem Q w w0 W gm dv pv s' → Calls Tryz.prog 95 #[.pointer (some ⟨gu, 0, none⟩)] W fun e w' => e = .returned (.int .i64 (toN x.top)) ∧ Ext W w') := Lib.hid (fun W s' m => by
    have b : Blk W gu 217 (x.cells gl t) := (m.keptQ gu qu).trans hu
    have := popSlot_ok W gu x.top x.dn ht (b.cell 3) (b.cell 4)
    rw [if_pos hd] at this
    exact this)
  have hs2 : toN x.top < 4294967296 := by unfold toN; omega
  have HFl : Hid (∀ W, IsMem Q w w0 W gm dv pv s → Calls Tryz.prog 49 #[.pointer (some ⟨gm, 0, none⟩), .int .i64 t, .int .i64 (genN F (toN x.top)), .int .u64 (IntKind.u64.wrap (gen + 1))] W fun e w' => (∃ u, e = .returned u) ∧ IsMem Q w w0 w' gm dv pv (s.store t (genN F (toN x.top)) (IntKind.u64.wrap (gen + 1)))) := Lib.hid (fun W m => memStore_ok m t _ _ har.1 har.2 (by unfold IntKind.wrap; simp [IntKind.signed, IntKind.bits]; omega) hc)
  have c0 : w.cell? ⟨gt, 0, none⟩ = some (.pointer (some ⟨gl, 0, none⟩)) := hb.cell 0
  have c1 : w.cell? ⟨gt, 1, none⟩ = some (.int .i64 t) := hb.cell 1
  have c3 : w.cell? ⟨gt, 3, none⟩ = some (.pointer (some ⟨gu, 0, none⟩)) := hb.cell 3
  have c8 : w.cell? ⟨gt, 8, none⟩ = some (.int .u64 gen) := hb.cell 8
  have M := Lib.hid (h.ext ((Ext.refl w).drew))
  generalize s.store t (genN F (toN x.top)) (IntKind.u64.wrap (gen + 1)) = s1 at *
  generalize genN F (toN x.top) = a at *
  generalize toN x.top = sl at *
  clear h hb hl hc ok har hu hd ht hs hs2
  go_enter Tryz.func253, Tryz.ntmps253
  go_wp2_with fail
  go_region_held3 (fun W => W.cell? ⟨gt, 0, none⟩ = some (.pointer (some ⟨gl, 0, none⟩)) ∧ W.cell? ⟨gt, 1, none⟩ = some (.int .i64 t) ∧ W.cell? ⟨gt, 3, none⟩ = some (.pointer (some ⟨gu, 0, none⟩)) ∧ W.cell? ⟨gt, 8, none⟩ = some (.int .u64 gen)) (first | exact HP.out _ _ M.out | go_keep) (first
    | (go_at_call 89; refine (HGe.out _ _ M.out).mono ?_; rintro e w1 ⟨rfl, x1⟩; replace M := Lib.hid (M.out.ext x1); clear x1)
    | (go_at_call 95; refine (HSl.out _ _ M.out).mono ?_; rintro e w1 ⟨rfl, x1⟩; replace M := Lib.hid (M.out.ext x1); clear x1)
    | (go_at_call 49; refine (HFl.out _ M.out).mono ?_; rintro e w2 ⟨⟨u, rfl⟩, m1⟩; replace M := Lib.hid m1; clear m1))
  all_goals
    have y2 : w2.cell? ⟨gt, 2, none⟩ = some nx := ((HK.out _ _ M.out).1).cell 2
    have z2 : w2.frozen? ⟨gt, 2, none⟩ = false := ((HK.out _ _ M.out).1).frozen 2
    go_wp2_with fail
    have f : Fr (fun b => b = gt) w2 (w2.setCell ⟨gt, 2, none⟩ Value.nilFunc) := Fr.setCell (S := fun b => b = gt) (p := ⟨gt, 2, none⟩) (Fr.refl _ w2) (Or.inl rfl) _
    refine bodyPost_end (results_none rfl _ _ _) rfl ?_
    refine ⟨⟨_, rfl⟩, M.out.turn f (fun b e => by rw [e]; exact qt) (fun b e => by rw [e]; exact p0), ((HK.out _ _ M.out).1).set 2 _, fun b hb hne => ?_⟩
    exact (f.block b (M.out.lt.2 b hb) hne).trans (M.out.keptQ b hb)
set_option maxRecDepth 100000 in
set_option maxHeartbeats 4000000 in
theorem loadPart_ok (h : IsMem Q w w0 w gm dv pv s) (hc : Calm s) (ok : Okay F) (hb : Blk w gt 149 (tkCells gl gu gt t nx av rc dry empty gen)) (hl : Blk w gl 173 (cellsF F)) (qt : Q gt) (ql : Q gl) (p0 : w0.heap.size ≤ gt) {x : PMs} (hu : Blk w gu 217 (x.cells gl t)) (qu : Q gu) (hd : x.dn = true) (ht : W64 x.top) (hs : 0 ≤ toN x.top) :
    Calls Tryz.prog 240 #[.pointer (some ⟨gt, 0, none⟩), .pointer (some ⟨gm, 0, none⟩)] w (PartPost Q w0 w gm gt dv pv (s.load t (genN F (toN x.top))) (tkCells gl gu gt t (tkF 253 gt) av rc dry empty (peekV s (genN F (toN x.top))))) := by
  have HK : Hid (∀ W s', IsMem Q w w0 W gm dv pv s' → Blk W gt 149 (tkCells gl gu gt t nx av rc dry empty gen) ∧ Blk W gl 173 (cellsF F)) := Lib.hid (fun W s' m => ⟨(m.keptQ gt qt).trans hb, (m.keptQ gl ql).trans hl⟩)
  have HP : Hid (∀ W s', IsMem Q w w0 W gm dv pv s' → W.cell? ⟨gt, 0, none⟩ = some (.pointer (some ⟨gl, 0, none⟩)) ∧ W.cell? ⟨gt, 1, none⟩ = some (.int .i64 t) ∧ W.cell? ⟨gt, 3, none⟩ = some (.pointer (some ⟨gu, 0, none⟩))) := Lib.hid (fun W s' m => ⟨(HK.out W s' m).1.cell 0, (HK.out W s' m).1.cell 1, (HK.out W s' m).1.cell 3⟩)
  have HGe : Hid (∀ W s', IsMem Q w w0 W gm dv pv s' → Calls Tryz.prog 89 #[.pointer (some ⟨gl, 0, none⟩), .int .i64 (toN x.top)] W fun e w' => e = .returned (.int .i64 (genN F (toN x.top))) ∧ Ext W w') := Lib.hid (fun W s' m => gen_ok ok gl _ W (HK.out W s' m).2)
  have har := genN_rng ok (toN x.top)
  have HSl : Hid (∀ W s', IsMem Q w w0 W gm dv pv s' → Calls Tryz.prog 95 #[.pointer (some ⟨gu, 0, none⟩)] W fun e w' => e = .returned (.int .i64 (toN x.top)) ∧ Ext W w') := Lib.hid (fun W s' m => by
    have b : Blk W gu 217 (x.cells gl t) := (m.keptQ gu qu).trans hu
    have := popSlot_ok W gu x.top x.dn ht (b.cell 3) (b.cell 4)
    rw [if_pos hd] at this
    exact this)
  have hs2 : toN x.top < 4294967296 := by unfold toN; omega
  have HP8 : Hid (∀ W s' v, IsMem Q w w0 W gm dv pv s' → (W.setCell ⟨gt, 8, none⟩ v).cell? ⟨gt, 0, none⟩ = some (.pointer (some ⟨gl, 0, none⟩)) ∧ (W.setCell ⟨gt, 8, none⟩ v).cell? ⟨gt, 1, none⟩ = some (.int .i64 t) ∧ (W.setCell ⟨gt, 8, none⟩ v).cell? ⟨gt, 3, none⟩ = some (.pointer (some ⟨gu, 0, none⟩))) := Lib.hid (fun W s' v m => ⟨((HK.out W s' m).1.set 8 v).cell 0, ((HK.out W s' m).1.set 8 v).cell 1, ((HK.out W s' m).1.set 8 v).cell 3⟩)
  have HFl : Hid (∀ W, IsMem Q w w0 W gm dv pv s → Calls Tryz.prog 69 #[.pointer (some ⟨gm, 0, none⟩), .int .i64 t, .int .i64 (genN F (toN x.top))] W fun e w' => e = .returned (.int .u64 (peekV s (genN F (toN x.top)))) ∧ IsMem Q w w0 w' gm dv pv (s.load t (genN F (toN x.top)))) := Lib.hid (fun W m => memLoad_ok m t _ har.1 har.2 hc)
  have c0 : w.cell? ⟨gt, 0, none⟩ = some (.pointer (some ⟨gl, 0, none⟩)) := hb.cell 0
  have c1 : w.cell? ⟨gt, 1, none⟩ = some (.int .i64 t) := hb.cell 1
  have c3 : w.cell? ⟨gt, 3, none⟩ = some (.pointer (some ⟨gu, 0, none⟩)) := hb.cell 3
  have M := Lib.hid (h.ext ((Ext.refl w).drew))
  generalize peekV s (genN F (toN x.top)) = ge at *
  generalize s.load t (genN F (toN x.top)) = s1 at *
  generalize genN F (toN x.top) = a at *
  generalize toN x.top = sl at *
  clear h hb hl hc ok har hu hd ht hs hs2
  go_enter Tryz.func240, Tryz.ntmps240
  go_wp2_with fail
  go_region_held3 (fun W => W.cell? ⟨gt, 0, none⟩ = some (.pointer (some ⟨gl, 0, none⟩)) ∧ W.cell? ⟨gt, 1, none⟩ = some (.int .i64 t) ∧ W.cell? ⟨gt, 3, none⟩ = some (.pointer (some ⟨gu, 0, none⟩))) (first | exact HP.out _ _ M.out | exact HP8.out _ _ _ M.out | go_keep) (first
    | (go_at_call 89; refine (HGe.out _ _ M.out).mono ?_; rintro e w1 ⟨rfl, x1⟩; replace M := Lib.hid (M.out.ext x1); clear x1)
    | (go_at_call 95; refine (HSl.out _ _ M.out).mono ?_; rintro e w1 ⟨rfl, x1⟩; replace M := Lib.hid (M.out.ext x1); clear x1)
    | (go_at_call 69; refine (HFl.out _ M.out).mono ?_; rintro e w2 ⟨rfl, m1⟩; replace M := Lib.hid m1; have y8 : w2.cell? ⟨gt, 8, none⟩ = some (.int .u64 gen) := ((HK.out _ _ m1).1).cell 8; have z8 : w2.frozen? ⟨gt, 8, none⟩ = false := ((HK.out _ _ m1).1).frozen 8; clear m1))
  all_goals
    have f8 : Fr (fun b => b = gt) w2 (w2.setCell ⟨gt, 8, none⟩ (.int .u64 ge)) := Fr.setCell (S := fun b => b = gt) (p := ⟨gt, 8, none⟩) (Fr.refl _ w2) (Or.inl rfl) _
    have B8 : Hid (Blk (w2.setCell ⟨gt, 8, none⟩ (.int .u64 ge)) gt 149 (tkCells gl gu gt t nx av rc dry empty ge)) := Lib.hid (((HK.out _ _ M.out).1).set 8 (.int .u64 ge))
    have M8 := Lib.hid (M.out.turn f8 (fun b e => by rw [e]; exact qt) (fun b e => by rw [e]; exact p0))
    have K8 : Hid (∀ b, Q b → b ≠ gt → (w2.setCell ⟨gt, 8, none⟩ (.int .u64 ge)).heap[b]? = w.heap[b]?) := Lib.hid (fun b hb hne => (f8.block b (M.out.lt.2 b hb) hne).trans (M.out.keptQ b hb))
    clear f8 y8 z8 M
    generalize w2.setCell ⟨gt, 8, none⟩ (.int .u64 ge) = w3 at *
    have y2 : w3.cell? ⟨gt, 2, none⟩ = some nx := B8.out.cell 2
    have z2 : w3.frozen? ⟨gt, 2, none⟩ = false := B8.out.frozen 2
    go_wp2_with fail
    have f : Fr (fun b => b = gt) w3 (w3.setCell ⟨gt, 2, none⟩ (tkF 253 gt)) := Fr.setCell (S := fun b => b = gt) (p := ⟨gt, 2, none⟩) (Fr.refl _ w3) (Or.inl rfl) _
    refine bodyPost_end (results_none rfl _ _ _) rfl ?_
    refine ⟨⟨_, rfl⟩, M8.out.turn f (fun b e => by rw [e]; exact qt) (fun b e => by rw [e]; exact p0), B8.out.set 2 _, fun b hb hne => ?_⟩
    exact (f.block b (M8.out.lt.2 b hb) hne).trans (K8.out b hb hne)
end
end Go.Proofs.YtbicloceaddinaaGreat

