/- Arena: a Take's Reclaim's part. Conditions: those that each theorem names. -/
import Derived.Test.YtbicloceaddinaaGreatKArB
namespace Go.Proofs.YtbicloceaddinaaGreat
open Go.ChangeShapes Go.WideShapes Go.ChangeAt Go.RowKit
set_option linter.unusedVariables false
section
variable {Q : Nat → Prop} {w0 w : World} {gm gt gu gl ga : Nat} {dv pv : Value} {s' : MSt} {t : Int} {nx av : Value} {dry : Bool} {empty gen : Int} {cs : List Value}
set_option maxRecDepth 100000 in
set_option maxHeartbeats 4000000 in
theorem reclaimPart_no {P : Ending → World → Prop} (hb : Blk w gt 149 (tkCells gl gu gt t nx av (.pointer (some ⟨ga, 0, none⟩)) dry empty gen)) (hst : Calls Tryz.prog 63 #[.pointer (some ⟨ga, 0, none⟩), .pointer (some ⟨gm, 0, none⟩)] w P) (hP : ∀ e w', P e w' → e = .returned (.bool false)) :
    Calls Tryz.prog 205 #[.pointer (some ⟨gt, 0, none⟩), .pointer (some ⟨gm, 0, none⟩)] w fun e w' => (∃ u, e = .returned u) ∧ ∃ e', P e' w' := by
  have HS := Lib.hid hst
  have HP := Lib.hid hP
  have c5 : w.cell? ⟨gt, 5, none⟩ = some (.pointer (some ⟨ga, 0, none⟩)) := hb.cell 5
  clear hb hst hP
  go_enter Tryz.func205, Tryz.ntmps205
  go_wp2_with fail
  refine HS.out.mono ?_
  rintro e w1 hp
  have PP : Hid (∃ e', P e' w1) := Lib.hid ⟨e, hp⟩
  obtain rfl := HP.out e w1 hp
  clear hp c5
  go_wp2_with fail
  refine bodyPost_end (results_none rfl _ _ _) rfl ?_
  exact ⟨⟨_, rfl⟩, PP.out⟩
/-- What it leaves where the Reclaim is done: a Pop begun anew. -/
def PartNew (Q : Nat → Prop) (w0 w : World) (gm gt gl ga : Nat) (T : TypeId) (dv pv : Value) (s' : MSt) (t : Int) (av : Value) (dry : Bool) (empty gen : Int) (acs : List Value) (e : Ending) (w' : World) : Prop :=
  (∃ u, e = .returned u) ∧ ∃ gu', (∀ b, Q b → b < gu') ∧ w0.heap.size ≤ gu' ∧ IsMem (fun b => Q b ∨ b = gu') w' w0 w' gm dv pv s' ∧ Blk w' gt 149 (tkCells gl gu' gt t (tkF 91 gt) av (.pointer (some ⟨ga, 0, none⟩)) dry empty gen) ∧ Blk w' gu' 217 (fcells gl t 0 0 false 0) ∧ Blk w' ga T acs ∧ (∀ b, Q b → b ≠ gt → b ≠ ga → w'.heap[b]? = w.heap[b]?)
set_option maxRecDepth 100000 in
set_option maxHeartbeats 4000000 in
theorem reclaimPart_yes (hb : Blk w gt 149 (tkCells gl gu gt t nx av (.pointer (some ⟨ga, 0, none⟩)) dry empty gen)) (hst : Calls Tryz.prog 63 #[.pointer (some ⟨ga, 0, none⟩), .pointer (some ⟨gm, 0, none⟩)] w (StepPost Q w0 w gm ga 206 dv pv s' true cs)) (qt : Q gt) (p0 : w0.heap.size ≤ gt) (nag : ga ≠ gt) :
    Calls Tryz.prog 205 #[.pointer (some ⟨gt, 0, none⟩), .pointer (some ⟨gm, 0, none⟩)] w (PartNew Q w0 w gm gt gl ga 206 dv pv s' t av dry empty gen cs) := by
  have HB := Lib.hid hb
  have HS := Lib.hid hst
  have c5 : w.cell? ⟨gt, 5, none⟩ = some (.pointer (some ⟨ga, 0, none⟩)) := hb.cell 5
  clear hb hst
  go_enter Tryz.func205, Tryz.ntmps205
  go_wp2_with fail
  refine HS.out.mono ?_
  rintro e w1 ⟨rfl, m1, b1, k1⟩
  have M1 := Lib.hid m1
  have A1 := Lib.hid b1
  have K1 := Lib.hid k1
  have B1 : Hid (Blk w1 gt 149 (tkCells gl gu gt t nx av (.pointer (some ⟨ga, 0, none⟩)) dry empty gen)) := Lib.hid ((k1 gt qt (fun e => nag e.symm)).trans HB.out)
  have HQ1 := Lib.hid m1.lt.2
  have hs1 : w0.heap.size ≤ w1.heap.size := m1.lt.1.size
  have hg1 : gt < w1.heap.size := B1.out.lt
  have HP : Hid (∀ W, Ext w1 W → W.cell? ⟨gt, 0, none⟩ = some (.pointer (some ⟨gl, 0, none⟩)) ∧ W.cell? ⟨gt, 1, none⟩ = some (.int .i64 t)) := Lib.hid (fun W x => ⟨(B1.out.ext x).cell 0, (B1.out.ext x).cell 1⟩)
  have HP3 : Hid (∀ W v, Ext w1 W → (W.setCell ⟨gt, 3, none⟩ v).cell? ⟨gt, 0, none⟩ = some (.pointer (some ⟨gl, 0, none⟩)) ∧ (W.setCell ⟨gt, 3, none⟩ v).cell? ⟨gt, 1, none⟩ = some (.int .i64 t)) := Lib.hid (fun W v x => ⟨((B1.out.ext x).set 3 v).cell 0, ((B1.out.ext x).set 3 v).cell 1⟩)
  have c0 : w1.cell? ⟨gt, 0, none⟩ = some (.pointer (some ⟨gl, 0, none⟩)) := B1.out.cell 0
  have c1 : w1.cell? ⟨gt, 1, none⟩ = some (.int .i64 t) := B1.out.cell 1
  have X := Lib.hid ((Ext.refl w1).drew)
  clear m1 b1 k1 c5
  go_upto_region 1 with fail
  go_region_held3 (fun W => W.cell? ⟨gt, 0, none⟩ = some (.pointer (some ⟨gl, 0, none⟩)) ∧ W.cell? ⟨gt, 1, none⟩ = some (.int .i64 t)) (first | exact HP.out _ X.out | exact HP3.out _ _ X.out | go_keep) (first
    | (go_at_call 90; refine (newPop_ok _ gl t).mono ?_; rintro e w2 ⟨gu', rfl, lu, bu, xu⟩; have LU := Lib.hid (Nat.le_trans X.out.size lu); replace X := Lib.hid (X.out.trans xu); have BU := Lib.hid bu; have y3 : w2.cell? ⟨gt, 3, none⟩ = some (.pointer (some ⟨gu, 0, none⟩)) := (B1.out.ext X.out).cell 3; have z3 : w2.frozen? ⟨gt, 3, none⟩ = false := (B1.out.ext X.out).frozen 3; clear lu bu xu))
  all_goals
    have nug : gu' ≠ gt := by have := LU.out; omega
    have f3 : Fr (fun b => b = gt) w2 (w2.setCell ⟨gt, 3, none⟩ (.pointer (some ⟨gu', 0, none⟩))) := Fr.setCell (S := fun b => b = gt) (p := ⟨gt, 3, none⟩) (Fr.refl _ w2) (Or.inl rfl) _
    have M3 := Lib.hid ((M1.out.hold (Q' := fun b => Q b ∨ b = gu') X.out (fun b hb => hb.elim (fun h => ⟨Nat.lt_of_lt_of_le (M1.out.lt.2 b h) X.out.size, Or.inl h⟩) (fun e => ⟨by rw [e]; exact BU.out.lt, Or.inr (by rw [e]; exact LU.out)⟩))).turn f3 (fun b e => Or.inl (by rw [e]; exact qt)) (fun b e => by rw [e]; exact p0))
    have B3 : Hid (Blk (w2.setCell ⟨gt, 3, none⟩ (.pointer (some ⟨gu', 0, none⟩))) gt 149 (tkCells gl gu' gt t nx av (.pointer (some ⟨ga, 0, none⟩)) dry empty gen)) := Lib.hid ((B1.out.ext X.out).set 3 _)
    have U3 := Lib.hid (BU.out.far (p := ⟨gt, 3, none⟩) nug (.pointer (some ⟨gu', 0, none⟩)))
    have A3 := Lib.hid ((A1.out.ext X.out).far (p := ⟨gt, 3, none⟩) nag (.pointer (some ⟨gu', 0, none⟩)))
    have K3 : Hid (∀ b, Q b → b ≠ gt → b ≠ ga → (w2.setCell ⟨gt, 3, none⟩ (.pointer (some ⟨gu', 0, none⟩))).heap[b]? = w.heap[b]?) := Lib.hid (fun b hb hne hna => ((f3.block b ((M1.out.ext X.out).lt.2 b hb) hne).trans (X.out.block b (M1.out.lt.2 b hb))).trans (K1.out b hb hna))
    clear f3 y3 z3 BU B1 A1 M1 X c0 c1
    generalize w2.setCell ⟨gt, 3, none⟩ (.pointer (some ⟨gu', 0, none⟩)) = w3 at *
    have y2 : w3.cell? ⟨gt, 2, none⟩ = some nx := B3.out.cell 2
    have z2 : w3.frozen? ⟨gt, 2, none⟩ = false := B3.out.frozen 2
    go_wp2_with fail
    have f : Fr (fun b => b = gt) w3 (w3.setCell ⟨gt, 2, none⟩ (tkF 91 gt)) := Fr.setCell (S := fun b => b = gt) (p := ⟨gt, 2, none⟩) (Fr.refl _ w3) (Or.inl rfl) _
    refine bodyPost_end (results_none rfl _ _ _) rfl ?_
    refine ⟨⟨_, rfl⟩, gu', fun b hb => Nat.lt_of_lt_of_le (HQ1.out b hb) LU.out, Nat.le_trans hs1 LU.out, M3.out.turn f (fun b e => Or.inl (by rw [e]; exact qt)) (fun b e => by rw [e]; exact p0), B3.out.set 2 _, U3.out.far (p := ⟨gt, 2, none⟩) nug _, A3.out.far (p := ⟨gt, 2, none⟩) nag _, fun b hb hne hna => ?_⟩
    exact (f.block b (M3.out.lt.2 b (Or.inl hb)) hne).trans (K3.out b hb hne hna)
end
end Go.Proofs.YtbicloceaddinaaGreat


/- Arena: a Take's Pop's part. Conditions: those that each theorem names. -/
namespace Go.Proofs.YtbicloceaddinaaGreat
open Go.ChangeShapes Go.WideShapes Go.ChangeAt Go.RowKit
set_option linter.unusedVariables false
section
variable {Q : Nat → Prop} {w0 w : World} {gm gt gu gl gr : Nat} {dv pv : Value} {s' : MSt} {t : Int} {nx av rc : Value} {dry : Bool} {empty gen : Int} {x : PMs}
set_option maxRecDepth 100000 in
set_option maxHeartbeats 4000000 in
theorem popPart_no (hb : Blk w gt 149 (tkCells gl gu gt t nx av rc dry empty gen)) (hst : Calls Tryz.prog 157 #[.pointer (some ⟨gu, 0, none⟩), .pointer (some ⟨gm, 0, none⟩)] w (StepPost Q w0 w gm gu 217 dv pv s' false (x.cells gl t))) (qt : Q gt) (nug : gu ≠ gt) :
    Calls Tryz.prog 91 #[.pointer (some ⟨gt, 0, none⟩), .pointer (some ⟨gm, 0, none⟩)] w (PartPost2 Q w0 w gm gt gu 217 dv pv s' (tkCells gl gu gt t nx av rc dry empty gen) (x.cells gl t)) := by
  have HB := Lib.hid hb
  have HS := Lib.hid hst
  have c3 : w.cell? ⟨gt, 3, none⟩ = some (.pointer (some ⟨gu, 0, none⟩)) := hb.cell 3
  clear hb hst
  go_enter Tryz.func91, Tryz.ntmps91
  go_wp2_with fail
  refine HS.out.mono ?_
  rintro e w1 ⟨rfl, m1, b1, k1⟩
  have M1 := Lib.hid m1
  have A1 := Lib.hid b1
  have K1 := Lib.hid k1
  have B1 : Hid (Blk w1 gt 149 (tkCells gl gu gt t nx av rc dry empty gen)) := Lib.hid ((k1 gt qt (fun e => nug e.symm)).trans HB.out)
  clear m1 b1 k1 c3
  go_wp2_with fail
  first
    | refine bodyPost_end (results_none rfl _ _ _) rfl ?_
    | go_ret
  exact ⟨⟨_, rfl⟩, M1.out, B1.out, A1.out, fun b hb _ hne => K1.out b hb hne⟩
set_option maxRecDepth 100000 in
set_option maxHeartbeats 4000000 in
theorem popPart_slot (hb : Blk w gt 149 (tkCells gl gu gt t nx av rc dry empty gen)) (hst : Calls Tryz.prog 157 #[.pointer (some ⟨gu, 0, none⟩), .pointer (some ⟨gm, 0, none⟩)] w (StepPost Q w0 w gm gu 217 dv pv s' true (x.cells gl t))) (qt : Q gt) (p0 : w0.heap.size ≤ gt) (nug : gu ≠ gt) (hd : x.dn = true) (ht : W64 x.top) (hs : toN x.top ≠ -1) :
    Calls Tryz.prog 91 #[.pointer (some ⟨gt, 0, none⟩), .pointer (some ⟨gm, 0, none⟩)] w (PartPost2 Q w0 w gm gt gu 217 dv pv s' (tkCells gl gu gt t (tkF 158 gt) av rc dry empty gen) (x.cells gl t)) := by
  have HB := Lib.hid hb
  have HS := Lib.hid hst
  have c3 : w.cell? ⟨gt, 3, none⟩ = some (.pointer (some ⟨gu, 0, none⟩)) := hb.cell 3
  have d1 : (toN x.top != -1) = true := by simpa using hs
  clear hb hst
  go_enter Tryz.func91, Tryz.ntmps91
  go_wp2_with fail
  refine HS.out.mono ?_
  rintro e w1 ⟨rfl, m1, b1, k1⟩
  have B1 : Hid (Blk w1 gt 149 (tkCells gl gu gt t nx av rc dry empty gen)) := Lib.hid ((k1 gt qt (fun e => nug e.symm)).trans HB.out)
  have hsl := popSlot_ok w1 gu x.top x.dn ht (b1.cell 3) (b1.cell 4)
  rw [if_pos hd] at hsl
  have HSl := Lib.hid hsl
  have M1 := Lib.hid m1
  have A1 := Lib.hid b1
  have K1 := Lib.hid k1
  have c3 : w1.cell? ⟨gt, 3, none⟩ = some (.pointer (some ⟨gu, 0, none⟩)) := B1.out.cell 3
  clear m1 b1 k1 hsl
  generalize toN x.top = v at *
  go_wp2_with fail
  refine HSl.out.mono ?_
  rintro e w2 ⟨rfl, x2⟩
  have M2 := Lib.hid (M1.out.ext x2)
  have A2 := Lib.hid (A1.out.ext x2)
  have B2 := Lib.hid (B1.out.ext x2)
  have K2 : Hid (∀ b, Q b → b ≠ gu → w2.heap[b]? = w.heap[b]?) := Lib.hid (fun b hb hne => (x2.block b (M1.out.lt.2 b hb)).trans (K1.out b hb hne))
  have y2 : w2.cell? ⟨gt, 2, none⟩ = some nx := B2.out.cell 2
  have z2 : w2.frozen? ⟨gt, 2, none⟩ = false := B2.out.frozen 2
  have L2 : Hid (∀ b, Q b → b < w2.heap.size) := Lib.hid M2.out.lt.2
  clear x2 c3 HSl M1 A1 B1 K1
  go_wp2_with fail
  have f : Fr (fun b => b = gt) w2 (w2.setCell ⟨gt, 2, none⟩ (tkF 158 gt)) := Fr.setCell (S := fun b => b = gt) (p := ⟨gt, 2, none⟩) (Fr.refl _ w2) (Or.inl rfl) _
  refine bodyPost_end (results_none rfl _ _ _) rfl ?_
  refine ⟨⟨_, rfl⟩, M2.out.turn f (fun b e => by rw [e]; exact qt) (fun b e => by rw [e]; exact p0), B2.out.set 2 _, A2.out.far (p := ⟨gt, 2, none⟩) nug _, fun b hb hne hna => ?_⟩
  exact (f.block b (L2.out b hb) hne).trans (K2.out b hb hna)
set_option maxRecDepth 100000 in
set_option maxHeartbeats 4000000 in
theorem popPart_dry (hb : Blk w gt 149 (tkCells gl gu gt t nx av (.pointer (some ⟨gr, 0, none⟩)) dry empty gen)) (hst : Calls Tryz.prog 157 #[.pointer (some ⟨gu, 0, none⟩), .pointer (some ⟨gm, 0, none⟩)] w (StepPost Q w0 w gm gu 217 dv pv s' true (x.cells gl t))) (qt : Q gt) (p0 : w0.heap.size ≤ gt) (nug : gu ≠ gt) (hd : x.dn = true) (ht : W64 x.top) (hs : toN x.top = -1) :
    Calls Tryz.prog 91 #[.pointer (some ⟨gt, 0, none⟩), .pointer (some ⟨gm, 0, none⟩)] w (PartPost2 Q w0 w gm gt gu 217 dv pv s' (tkCells gl gu gt t .nilFunc av (.pointer (some ⟨gr, 0, none⟩)) true s'.clock gen) (x.cells gl t)) := by
  obtain ⟨ck, hck⟩ : ∃ ck, s'.clock = ck := ⟨_, rfl⟩
  rw [hck]
  have HCe := Lib.hid hck
  clear hck
  have HB := Lib.hid hb
  have HS := Lib.hid hst
  have c3 : w.cell? ⟨gt, 3, none⟩ = some (.pointer (some ⟨gu, 0, none⟩)) := hb.cell 3
  clear hb hst
  go_enter Tryz.func91, Tryz.ntmps91
  go_wp2_with fail
  refine HS.out.mono ?_
  rintro e w1 ⟨rfl, m1, b1, k1⟩
  have B1 : Hid (Blk w1 gt 149 (tkCells gl gu gt t nx av (.pointer (some ⟨gr, 0, none⟩)) dry empty gen)) := Lib.hid ((k1 gt qt (fun e => nug e.symm)).trans HB.out)
  have hsl := popSlot_ok w1 gu x.top x.dn ht (b1.cell 3) (b1.cell 4)
  rw [if_pos hd, hs] at hsl
  have HSl := Lib.hid hsl
  have M1 := Lib.hid m1
  have A1 := Lib.hid b1
  have K1 := Lib.hid k1
  have c3 : w1.cell? ⟨gt, 3, none⟩ = some (.pointer (some ⟨gu, 0, none⟩)) := B1.out.cell 3
  clear m1 b1 k1 hsl
  go_wp2_with fail
  refine HSl.out.mono ?_
  rintro e w2 ⟨rfl, x2⟩
  have M2 := Lib.hid (M1.out.ext x2)
  have A2 := Lib.hid (A1.out.ext x2)
  have B2 := Lib.hid (B1.out.ext x2)
  have K2 : Hid (∀ b, Q b → b ≠ gu → w2.heap[b]? = w.heap[b]?) := Lib.hid (fun b hb hne => (x2.block b (M1.out.lt.2 b hb)).trans (K1.out b hb hne))
  have hcl := memClock_ok M2.out
  rw [HCe.out] at hcl
  have HCk := Lib.hid hcl
  clear hcl
  have c5 : w2.cell? ⟨gt, 5, none⟩ = some (.pointer (some ⟨gr, 0, none⟩)) := B2.out.cell 5
  have y6 : w2.cell? ⟨gt, 6, none⟩ = some (.bool dry) := B2.out.cell 6
  have z6 : w2.frozen? ⟨gt, 6, none⟩ = false := B2.out.frozen 6
  have y7 : w2.cell? ⟨gt, 7, none⟩ = some (.int .i64 empty) := B2.out.cell 7
  have z7 : w2.frozen? ⟨gt, 7, none⟩ = false := B2.out.frozen 7
  have L2 : Hid (∀ b, Q b → b < w2.heap.size) := Lib.hid M2.out.lt.2
  have NG := Lib.hid nug
  clear x2 c3 HSl M1 A1 B1 K1
  go_wp2_with fail
  refine HCk.out.mono ?_
  rintro e w' ⟨rfl, rfl⟩
  clear HCk
  go_upto_region 2 with fail
  have f6 : Fr (fun b => b = gt) w2 (w2.setCell ⟨gt, 6, none⟩ (.bool true)) := Fr.setCell (S := fun b => b = gt) (p := ⟨gt, 6, none⟩) (Fr.refl _ w2) (Or.inl rfl) _
  have f7 : Fr (fun b => b = gt) w2 ((w2.setCell ⟨gt, 6, none⟩ (.bool true)).setCell ⟨gt, 7, none⟩ (.int .i64 ck)) := Fr.setCell (S := fun b => b = gt) (p := ⟨gt, 7, none⟩) f6 (Or.inl rfl) _
  have M3 := Lib.hid (M2.out.turn f7 (fun b e => by rw [e]; exact qt) (fun b e => by rw [e]; exact p0))
  have B3 : Hid (Blk ((w2.setCell ⟨gt, 6, none⟩ (.bool true)).setCell ⟨gt, 7, none⟩ (.int .i64 ck)) gt 149 (tkCells gl gu gt t nx av (.pointer (some ⟨gr, 0, none⟩)) true ck gen)) := Lib.hid ((B2.out.set 6 _).set 7 _)
  have A3 := Lib.hid ((A2.out.far (p := ⟨gt, 6, none⟩) NG.out (.bool true)).far (p := ⟨gt, 7, none⟩) NG.out (.int .i64 ck))
  have K3 : Hid (∀ b, Q b → b ≠ gt → b ≠ gu → ((w2.setCell ⟨gt, 6, none⟩ (.bool true)).setCell ⟨gt, 7, none⟩ (.int .i64 ck)).heap[b]? = w.heap[b]?) := Lib.hid (fun b hb hne hna => (f7.block b (L2.out b hb) hne).trans (K2.out b hb hna))
  clear f6 f7 y6 z6 y7 z7 c5 M2 B2 A2 K2 L2
  generalize (w2.setCell ⟨gt, 6, none⟩ (.bool true)).setCell ⟨gt, 7, none⟩ (.int .i64 ck) = w3 at *
  have y2 : w3.cell? ⟨gt, 2, none⟩ = some nx := B3.out.cell 2
  have z2 : w3.frozen? ⟨gt, 2, none⟩ = false := B3.out.frozen 2
  have L3 : Hid (∀ b, Q b → b < w3.heap.size) := Lib.hid M3.out.lt.2
  go_wp2_with fail
  have f : Fr (fun b => b = gt) w3 (w3.setCell ⟨gt, 2, none⟩ .nilFunc) := Fr.setCell (S := fun b => b = gt) (p := ⟨gt, 2, none⟩) (Fr.refl _ w3) (Or.inl rfl) _
  refine bodyPost_end (results_none rfl _ _ _) rfl ?_
  refine ⟨⟨_, rfl⟩, M3.out.turn f (fun b e => by rw [e]; exact qt) (fun b e => by rw [e]; exact p0), B3.out.set 2 _, A3.out.far (p := ⟨gt, 2, none⟩) NG.out _, fun b hb hne hna => ?_⟩
  exact (f.block b (L3.out b hb) hne).trans (K3.out b hb hne hna)
/-- What it leaves where none is free the first time: an Advance and a Reclaim. -/
def PartFirst (Q : Nat → Prop) (w0 w : World) (gm gt gl gu : Nat) (dv pv : Value) (s' : MSt) (t : Int) (dry : Bool) (empty gen : Int) (ucs : List Value) (e : Ending) (w' : World) : Prop :=
  (∃ u, e = .returned u) ∧ ∃ ga gr, (∀ b, Q b → b < ga) ∧ ga < gr ∧ w0.heap.size ≤ ga ∧ IsMem (fun b => Q b ∨ b = ga ∨ b = gr) w' w0 w' gm dv pv s' ∧ Blk w' gt 149 (tkCells gl gu gt t (tkF 160 gt) (.pointer (some ⟨ga, 0, none⟩)) (.pointer (some ⟨gr, 0, none⟩)) dry empty gen) ∧ Blk w' gu 217 ucs ∧ Blk w' ga 250 (acells gl t false false 0 0 false) ∧ Blk w' gr 206 (RcM.cells ⟨false, 0, 0, 0, 0, none, 0⟩ gl t) ∧ (∀ b, Q b → b ≠ gt → b ≠ gu → w'.heap[b]? = w.heap[b]?)
set_option maxRecDepth 100000 in
set_option maxHeartbeats 8000000 in
theorem popPart_first (hb : Blk w gt 149 (tkCells gl gu gt t nx av (.pointer none) dry empty gen)) (hst : Calls Tryz.prog 157 #[.pointer (some ⟨gu, 0, none⟩), .pointer (some ⟨gm, 0, none⟩)] w (StepPost Q w0 w gm gu 217 dv pv s' true (x.cells gl t))) (qt : Q gt) (p0 : w0.heap.size ≤ gt) (nug : gu ≠ gt) (hd : x.dn = true) (ht : W64 x.top) (hs : toN x.top = -1) :
    Calls Tryz.prog 91 #[.pointer (some ⟨gt, 0, none⟩), .pointer (some ⟨gm, 0, none⟩)] w (PartFirst Q w0 w gm gt gl gu dv pv s' t dry empty gen (x.cells gl t)) := by
  have HB := Lib.hid hb
  have HS := Lib.hid hst
  have c3 : w.cell? ⟨gt, 3, none⟩ = some (.pointer (some ⟨gu, 0, none⟩)) := hb.cell 3
  clear hb hst
  go_enter Tryz.func91, Tryz.ntmps91
  go_wp2_with fail
  refine HS.out.mono ?_
  rintro e w1 ⟨rfl, m1, b1, k1⟩
  have B1 : Hid (Blk w1 gt 149 (tkCells gl gu gt t nx av (.pointer none) dry empty gen)) := Lib.hid ((k1 gt qt (fun e => nug e.symm)).trans HB.out)
  have hsl := popSlot_ok w1 gu x.top x.dn ht (b1.cell 3) (b1.cell 4)
  rw [if_pos hd, hs] at hsl
  have HSl := Lib.hid hsl
  have M1 := Lib.hid m1
  have A1 := Lib.hid b1
  have K1 := Lib.hid k1
  have c3 : w1.cell? ⟨gt, 3, none⟩ = some (.pointer (some ⟨gu, 0, none⟩)) := B1.out.cell 3
  clear m1 b1 k1 hsl
  go_wp2_with fail
  refine HSl.out.mono ?_
  rintro e w2 ⟨rfl, x2⟩
  have M2 := Lib.hid (M1.out.ext x2)
  have A2 := Lib.hid (A1.out.ext x2)
  have B2 := Lib.hid (B1.out.ext x2)
  have K2 : Hid (∀ b, Q b → b ≠ gu → w2.heap[b]? = w.heap[b]?) := Lib.hid (fun b hb hne => (x2.block b (M1.out.lt.2 b hb)).trans (K1.out b hb hne))
  have c5 : w2.cell? ⟨gt, 5, none⟩ = some (.pointer none) := B2.out.cell 5
  have c0 : w2.cell? ⟨gt, 0, none⟩ = some (.pointer (some ⟨gl, 0, none⟩)) := B2.out.cell 0
  have c1 : w2.cell? ⟨gt, 1, none⟩ = some (.int .i64 t) := B2.out.cell 1
  have L2 : Hid (∀ b, Q b → b < w2.heap.size) := Lib.hid M2.out.lt.2
  have S2 : w0.heap.size ≤ w2.heap.size := M2.out.lt.1.size
  have NG := Lib.hid nug
  have HP : Hid (∀ W, Ext w2 W → W.cell? ⟨gt, 0, none⟩ = some (.pointer (some ⟨gl, 0, none⟩)) ∧ W.cell? ⟨gt, 1, none⟩ = some (.int .i64 t)) := Lib.hid (fun W x => ⟨(B2.out.ext x).cell 0, (B2.out.ext x).cell 1⟩)
  have HP3 : Hid (∀ W v, Ext w2 W → (W.setCell ⟨gt, 4, none⟩ v).cell? ⟨gt, 0, none⟩ = some (.pointer (some ⟨gl, 0, none⟩)) ∧ (W.setCell ⟨gt, 4, none⟩ v).cell? ⟨gt, 1, none⟩ = some (.int .i64 t)) := Lib.hid (fun W v x => ⟨((B2.out.ext x).set 4 v).cell 0, ((B2.out.ext x).set 4 v).cell 1⟩)
  have hgt2 : gt < w2.heap.size := B2.out.lt
  have hgu2 : gu < w2.heap.size := A2.out.lt
  clear x2 c3 HSl M1 A1 B1 K1
  go_upto_region 6 with fail
  clear c5
  have X := Lib.hid ((Ext.refl w2).drew)
  go_region_held3 (fun W => W.cell? ⟨gt, 0, none⟩ = some (.pointer (some ⟨gl, 0, none⟩)) ∧ W.cell? ⟨gt, 1, none⟩ = some (.int .i64 t)) (first | exact HP.out _ X.out | exact HP3.out _ _ X.out | go_keep) (first
    | (go_at_call 159; refine (newAdvance_ok _ gl t).mono ?_; rintro e w3 ⟨ga, rfl, lu, bu, xu⟩; have LA := Lib.hid (Nat.le_trans X.out.size lu); replace X := Lib.hid (X.out.trans xu); have BA := Lib.hid bu; have y4 : w3.cell? ⟨gt, 4, none⟩ = some av := (B2.out.ext X.out).cell 4; have z4 : w3.frozen? ⟨gt, 4, none⟩ = false := (B2.out.ext X.out).frozen 4; clear lu bu xu))
  all_goals
    have nag : ga ≠ gt := by have := LA.out; omega
    have f4 : Fr (fun b => b = gt) w3 (w3.setCell ⟨gt, 4, none⟩ (.pointer (some ⟨ga, 0, none⟩))) := Fr.setCell (S := fun b => b = gt) (p := ⟨gt, 4, none⟩) (Fr.refl _ w3) (Or.inl rfl) _
    have M4 := Lib.hid ((M2.out.hold (Q' := fun b => Q b ∨ b = ga) X.out (fun b hb => hb.elim (fun h => ⟨Nat.lt_of_lt_of_le (M2.out.lt.2 b h) X.out.size, Or.inl h⟩) (fun e => ⟨by rw [e]; exact BA.out.lt, Or.inr (by rw [e]; exact LA.out)⟩))).turn f4 (fun b e => Or.inl (by rw [e]; exact qt)) (fun b e => by rw [e]; exact p0))
    have B4 : Hid (Blk (w3.setCell ⟨gt, 4, none⟩ (.pointer (some ⟨ga, 0, none⟩))) gt 149 (tkCells gl gu gt t nx (.pointer (some ⟨ga, 0, none⟩)) (.pointer none) dry empty gen)) := Lib.hid ((B2.out.ext X.out).set 4 _)
    have U4 := Lib.hid ((A2.out.ext X.out).far (p := ⟨gt, 4, none⟩) NG.out (.pointer (some ⟨ga, 0, none⟩)))
    have A4 := Lib.hid (BA.out.far (p := ⟨gt, 4, none⟩) nag (.pointer (some ⟨ga, 0, none⟩)))
    have K4 : Hid (∀ b, Q b → b ≠ gt → b ≠ gu → (w3.setCell ⟨gt, 4, none⟩ (.pointer (some ⟨ga, 0, none⟩))).heap[b]? = w.heap[b]?) := Lib.hid (fun b hb hne hna => ((f4.block b ((M2.out.ext X.out).lt.2 b hb) hne).trans (X.out.block b (M2.out.lt.2 b hb))).trans (K2.out b hb hna))
    clear f4 y4 z4 BA X c0 c1 HP HP3 M2 A2 B2 K2
    generalize w3.setCell ⟨gt, 4, none⟩ (.pointer (some ⟨ga, 0, none⟩)) = w4 at *
    have c0 : w4.cell? ⟨gt, 0, none⟩ = some (.pointer (some ⟨gl, 0, none⟩)) := B4.out.cell 0
    have c1 : w4.cell? ⟨gt, 1, none⟩ = some (.int .i64 t) := B4.out.cell 1
    have hga4 : ga < w4.heap.size := A4.out.lt
    have HP : Hid (∀ W, Ext w4 W → W.cell? ⟨gt, 0, none⟩ = some (.pointer (some ⟨gl, 0, none⟩)) ∧ W.cell? ⟨gt, 1, none⟩ = some (.int .i64 t)) := Lib.hid (fun W x => ⟨(B4.out.ext x).cell 0, (B4.out.ext x).cell 1⟩)
    have HP3 : Hid (∀ W v, Ext w4 W → (W.setCell ⟨gt, 5, none⟩ v).cell? ⟨gt, 0, none⟩ = some (.pointer (some ⟨gl, 0, none⟩)) ∧ (W.setCell ⟨gt, 5, none⟩ v).cell? ⟨gt, 1, none⟩ = some (.int .i64 t)) := Lib.hid (fun W v x => ⟨((B4.out.ext x).set 5 v).cell 0, ((B4.out.ext x).set 5 v).cell 1⟩)
    go_upto_region 7 with fail
    have X := Lib.hid ((Ext.refl w4).drew)
    go_region_held3 (fun W => W.cell? ⟨gt, 0, none⟩ = some (.pointer (some ⟨gl, 0, none⟩)) ∧ W.cell? ⟨gt, 1, none⟩ = some (.int .i64 t)) (first | exact HP.out _ X.out | exact HP3.out _ _ X.out | go_keep) (first
      | (go_at_call 60; refine (newReclaim_ok _ gl t).mono ?_; rintro e w5 ⟨gr, rfl, lu, bu, xu⟩; have LR := Lib.hid (Nat.le_trans X.out.size lu); replace X := Lib.hid (X.out.trans xu); have BR := Lib.hid bu; have y5 : w5.cell? ⟨gt, 5, none⟩ = some (.pointer none) := (B4.out.ext X.out).cell 5; have z5 : w5.frozen? ⟨gt, 5, none⟩ = false := (B4.out.ext X.out).frozen 5; clear lu bu xu))
    all_goals
      have hgt4 : gt < w4.heap.size := B4.out.lt
      have nrg : gr ≠ gt := by have := LR.out; omega
      have f5 : Fr (fun b => b = gt) w5 (w5.setCell ⟨gt, 5, none⟩ (.pointer (some ⟨gr, 0, none⟩))) := Fr.setCell (S := fun b => b = gt) (p := ⟨gt, 5, none⟩) (Fr.refl _ w5) (Or.inl rfl) _
      have M6 := Lib.hid ((M4.out.hold (Q' := fun b => Q b ∨ b = ga ∨ b = gr) X.out (fun b hb => by
        rcases hb with h | h | e
        · exact ⟨Nat.lt_of_lt_of_le (M4.out.lt.2 b (Or.inl h)) X.out.size, Or.inl (Or.inl h)⟩
        · exact ⟨Nat.lt_of_lt_of_le (M4.out.lt.2 b (Or.inr h)) X.out.size, Or.inl (Or.inr h)⟩
        · exact ⟨by rw [e]; exact BR.out.lt, Or.inr (by rw [e]; exact LR.out)⟩)).turn f5 (fun b e => Or.inl (by rw [e]; exact qt)) (fun b e => by rw [e]; exact p0))
      have B6 : Hid (Blk (w5.setCell ⟨gt, 5, none⟩ (.pointer (some ⟨gr, 0, none⟩))) gt 149 (tkCells gl gu gt t nx (.pointer (some ⟨ga, 0, none⟩)) (.pointer (some ⟨gr, 0, none⟩)) dry empty gen)) := Lib.hid ((B4.out.ext X.out).set 5 _)
      have U6 := Lib.hid ((U4.out.ext X.out).far (p := ⟨gt, 5, none⟩) NG.out (.pointer (some ⟨gr, 0, none⟩)))
      have A6 := Lib.hid ((A4.out.ext X.out).far (p := ⟨gt, 5, none⟩) nag (.pointer (some ⟨gr, 0, none⟩)))
      have R6 := Lib.hid (BR.out.far (p := ⟨gt, 5, none⟩) nrg (.pointer (some ⟨gr, 0, none⟩)))
      have K6 : Hid (∀ b, Q b → b ≠ gt → b ≠ gu → (w5.setCell ⟨gt, 5, none⟩ (.pointer (some ⟨gr, 0, none⟩))).heap[b]? = w.heap[b]?) := Lib.hid (fun b hb hne hna => ((f5.block b ((M4.out.ext X.out).lt.2 b (Or.inl hb)) hne).trans (X.out.block b (M4.out.lt.2 b (Or.inl hb)))).trans (K4.out b hb hne hna))
      clear f5 y5 z5 BR X c0 c1 HP HP3 M4 A4 B4 K4 U4
      generalize w5.setCell ⟨gt, 5, none⟩ (.pointer (some ⟨gr, 0, none⟩)) = w6 at *
      have y2 : w6.cell? ⟨gt, 2, none⟩ = some nx := B6.out.cell 2
      have z2 : w6.frozen? ⟨gt, 2, none⟩ = false := B6.out.frozen 2
      go_wp2_with fail
      have f : Fr (fun b => b = gt) w6 (w6.setCell ⟨gt, 2, none⟩ (tkF 160 gt)) := Fr.setCell (S := fun b => b = gt) (p := ⟨gt, 2, none⟩) (Fr.refl _ w6) (Or.inl rfl) _
      refine bodyPost_end (results_none rfl _ _ _) rfl ?_
      refine ⟨⟨_, rfl⟩, ga, gr, fun b hb => Nat.lt_of_lt_of_le (L2.out b hb) LA.out, Nat.lt_of_lt_of_le hga4 LR.out, Nat.le_trans S2 LA.out, M6.out.turn f (fun b e => Or.inl (by rw [e]; exact qt)) (fun b e => by rw [e]; exact p0), B6.out.set 2 _, U6.out.far (p := ⟨gt, 2, none⟩) NG.out _, A6.out.far (p := ⟨gt, 2, none⟩) nag _, R6.out.far (p := ⟨gt, 2, none⟩) nrg _, fun b hb hne hna => ?_⟩
      exact (f.block b (M6.out.lt.2 b (Or.inl hb)) hne).trans (K6.out b hb hne hna)
end
end Go.Proofs.YtbicloceaddinaaGreat

