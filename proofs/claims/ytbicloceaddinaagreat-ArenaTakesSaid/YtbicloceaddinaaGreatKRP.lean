/- The document's Push, each step. Conditions: those that each theorem names. -/
import Derived.Test.YtbicloceaddinaaGreatRPop
import Derived.Test.YtbicloceaddinaaGreatKPk
import Derived.Test.YtbicloceaddinaaGreatKFM
namespace Go.Proofs.YtbicloceaddinaaGreat
open Go.ChangeShapes Go.WideShapes Go.ChangeAt Go.RowKit
set_option linter.unusedVariables false
/-- The document's machine: its line, the top that was loaded, its slot. -/
structure RPu where
  line : Int
  top : Int
  slot : Int
def RPu.cells (r : RPu) (t s l b tn : Int) : List Value := [.int .i64 t, .int .i64 s, .int .i64 l, .int .i64 b, .int .i64 tn, .int .i64 r.line, .int .u64 r.top, .int .i64 r.slot]
structure RPu.Wf (r : RPu) : Prop where
  line : r.line = 0 ∨ r.line = 1 ∨ r.line = 2 ∨ r.line = 3
  top : W64 r.top
  slot : I64 r.slot
def rpushS (F : Nat → Int) (tn : Int) (r : RPu) (st : MSt) : RPu × MSt :=
  if r.line = 1 then (⟨2, peekV st (-2), r.slot⟩, st.load tn (-2))
  else if r.line = 2 then (⟨3, r.top, r.slot⟩, st.store tn (aft F r.slot) (toN r.top + 1))
  else if r.line = 3 then (⟨if swapB st (-2) r.top = true then 0 else 1, r.top, r.slot⟩, st.swap tn (-2) r.top (topN r.slot (ver1 r.top)))
  else (r, st)
section
variable {B : Nat} {w : World} {g : Nat} {R : RefB} {rv : Value} {gq : Nat} {st : MSt} {t s l b : Nat} {tn : Int} {r : RPu}
end
/-- A Push beside the document's. -/
structure RelU (x : PMs) (r : RPu) : Prop where
  xw : x.Wf
  rw : r.Wf
  line : r.line = if x.dn = true then 0 else x.part + 1
  top : r.top = x.top
  slot : r.slot = x.y
theorem RelU.step {F : Nat → Int} {t : Int} {x : PMs} {r : RPu} {s : MSt} (h : RelU x r) (hU : ∀ a, W64 (peekV s a)) : (rpushS F t r s).2 = (pushS F t x s).2 ∧ RelU (pushS F t x s).1 (rpushS F t r s).1 := by
  obtain ⟨part, top, y, dn⟩ := x
  obtain ⟨line, rtop, slot⟩ := r
  obtain ⟨hx, hr, hl, ht, hs⟩ := h
  simp only at hl ht hs
  subst ht hs
  cases dn
  · have hl' : line = part + 1 := by simpa using hl
    subst hl'
    rcases hx.part with e | e | e
    · have e' : part = 0 := e
      subst e'
      have e1 : pushS F t ⟨0, rtop, slot, false⟩ s = (⟨1, peekV s (-2), slot, false⟩, s.load t (-2)) := rfl
      have e2 : rpushS F t ⟨0 + 1, rtop, slot⟩ s = (⟨2, peekV s (-2), slot⟩, s.load t (-2)) := rfl
      rw [e1, e2]
      exact ⟨rfl, ⟨Or.inr (Or.inl rfl), hU (-2), hx.y⟩, ⟨Or.inr (Or.inr (Or.inl rfl)), hU (-2), hr.slot⟩, rfl, rfl, rfl⟩
    · have e' : part = 1 := e
      subst e'
      have e1 : pushS F t ⟨1, rtop, slot, false⟩ s = (⟨2, rtop, slot, false⟩, s.store t (aft F slot) (toN rtop + 1)) := rfl
      have e2 : rpushS F t ⟨1 + 1, rtop, slot⟩ s = (⟨3, rtop, slot⟩, s.store t (aft F slot) (toN rtop + 1)) := rfl
      rw [e1, e2]
      exact ⟨rfl, ⟨Or.inr (Or.inr rfl), hx.top, hx.y⟩, ⟨Or.inr (Or.inr (Or.inr rfl)), hr.top, hr.slot⟩, rfl, rfl, rfl⟩
    · have e' : part = 2 := e
      subst e'
      have e1 : pushS F t ⟨2, rtop, slot, false⟩ s = (⟨0, rtop, slot, swapB s (-2) rtop⟩, s.swap t (-2) rtop (topN slot (ver1 rtop))) := rfl
      have e2 : rpushS F t ⟨2 + 1, rtop, slot⟩ s = (⟨if swapB s (-2) rtop = true then 0 else 1, rtop, slot⟩, s.swap t (-2) rtop (topN slot (ver1 rtop))) := rfl
      rw [e1, e2]
      refine ⟨rfl, ?_⟩
      cases swapB s (-2) rtop
      · exact ⟨⟨Or.inl rfl, hx.top, hx.y⟩, ⟨Or.inr (Or.inl rfl), hr.top, hr.slot⟩, rfl, rfl, rfl⟩
      · exact ⟨⟨Or.inl rfl, hx.top, hx.y⟩, ⟨Or.inl rfl, hr.top, hr.slot⟩, rfl, rfl, rfl⟩
  · have hl' : line = 0 := by simpa using hl
    subst hl'
    have e1 : pushS F t ⟨part, rtop, slot, true⟩ s = (⟨part, rtop, slot, true⟩, s) := rfl
    have e2 : rpushS F t ⟨0, rtop, slot⟩ s = (⟨0, rtop, slot⟩, s) := rfl
    rw [e1, e2]
    exact ⟨rfl, hx, hr, hl, rfl, rfl⟩
theorem RelU.zero {y : Int} (h : I64 y) : RelU ⟨0, 0, y, false⟩ ⟨1, 0, y⟩ := ⟨⟨Or.inl rfl, ⟨Int.le_refl 0, by show (0 : Int) < _; decide⟩, h⟩, ⟨Or.inr (Or.inl rfl), ⟨Int.le_refl 0, by show (0 : Int) < _; decide⟩, h⟩, rfl, rfl, rfl⟩
theorem RelU.lineB {x : PMs} {r : RPu} (h : RelU x r) : (r.line == 0) = x.dn := by
  have hl := h.line
  have hp := h.xw.part
  cases hd : x.dn
  · rw [hd, if_neg (by decide)] at hl
    rw [hl]
    rw [beq_eq_false_iff_ne]
    omega
  · rw [hd, if_pos rfl] at hl
    rw [hl]
    rfl
end Go.Proofs.YtbicloceaddinaaGreat


/- The document's machines inside others: cells that stand in a block from a place on; Pop and Push there, each step. Conditions: those that each theorem names. -/
namespace Go.Proofs.YtbicloceaddinaaGreat
open Go.ChangeShapes Go.WideShapes Go.ChangeAt Go.RowKit
set_option linter.unusedVariables false
/-- Cells that stand in a block, from a place on. -/
structure Sub (w : World) (g : Nat) (T : TypeId) (o : Nat) (A Z : List Value) (cs : List Value) : Prop where
  blk : Blk w g T (A ++ (cs ++ Z))
  len : A.length = o
section
variable {w w' : World} {g : Nat} {T : TypeId} {o : Nat} {A Z cs : List Value}
theorem Sub.cell (h : Sub w g T o A Z cs) (i : Nat) {v : Value} (hv : cs[i]? = some v := by rfl) : w.cell? ⟨g, o + i, none⟩ = some v := by
  have hi : i < cs.length := (List.getElem?_eq_some_iff.1 hv).1
  rw [h.blk.cell, ← h.len, List.getElem?_append_right (by omega), Nat.add_sub_cancel_left, List.getElem?_append_left hi]
  exact hv
theorem Sub.frozen (h : Sub w g T o A Z cs) (i : Nat) : w.frozen? ⟨g, o + i, none⟩ = false := h.blk.frozen _
theorem Sub.ext (h : Sub w g T o A Z cs) (x : Ext w w') : Sub w' g T o A Z cs := ⟨h.blk.ext x, h.len⟩
theorem Sub.fr {S : Nat → Prop} (h : Sub w g T o A Z cs) (x : Fr S w w') (hS : ¬ S g) : Sub w' g T o A Z cs := ⟨h.blk.fr x hS, h.len⟩
theorem Sub.set (h : Sub w g T o A Z cs) (i : Nat) (hi : i < cs.length) (u : Value) : Sub (w.setCell ⟨g, o + i, none⟩ u) g T o A Z (cs.set i u) := by
  refine ⟨?_, h.len⟩
  have h2 := h.blk.set (o + i) u
  rw [← h.len, List.set_append_right _ _ (by omega), Nat.add_sub_cancel_left, List.set_append_left _ _ hi] at h2
  rw [← h.len]
  exact h2
end
/-- The document's memory, and a block beside it that has a machine of the document in it. -/
structure RS (B : Nat) (w0 w : World) (g : Nat) (R : RefB) (rv : Value) (gq : Nat) (T : TypeId) (o : Nat) (A Z cs : List Value) (st : MSt) : Prop where
  ref : IsRMem B w g R rv st
  blk : Sub w gq T o A Z cs
  fr : Fr (fun b => rfoot g R rv b ∨ b = gq) w0 w
  off : ¬ rfoot g R rv gq
section
variable {B : Nat} {w0 w w' : World} {g : Nat} {R : RefB} {rv : Value} {gq : Nat} {T : TypeId} {o : Nat} {A Z cs : List Value} {st st' : MSt}
theorem RS.of (h : IsRMem B w g R rv st) (hb : Sub w gq T o A Z cs) (ho : ¬ rfoot g R rv gq) : RS B w w g R rv gq T o A Z cs st := ⟨h, hb, Fr.refl _ _, ho⟩
theorem RS.ext (h : RS B w0 w g R rv gq T o A Z cs st) (x : Ext w w') : RS B w0 w' g R rv gq T o A Z cs st := ⟨h.ref.ext x, h.blk.ext x, h.fr.then_ext x, h.off⟩
theorem RS.to (h : RS B w0 w g R rv gq T o A Z cs st) (r : IsRMem B w' g R rv st') (f : Fr (rfoot g R rv) w w') : RS B w0 w' g R rv gq T o A Z cs st' :=
  ⟨r, h.blk.fr f h.off, h.fr.trans f (fun b _ hb => Or.inl hb), h.off⟩
theorem RS.put (h : RS B w0 w g R rv gq T o A Z cs st) (i : Nat) (v : Value) (hi : Nat.blt i cs.length = true := by rfl) : RS B w0 (w.setCell ⟨gq, o + i, none⟩ v) g R rv gq T o A Z (cs.set i v) st := by
  have f : Fr (fun b => b = gq) w (w.setCell ⟨gq, o + i, none⟩ v) := Fr.setCell (S := fun b => b = gq) (p := ⟨gq, o + i, none⟩) (Fr.refl _ w) (Or.inl rfl) _
  exact ⟨h.ref.fr f (fun b hb hs => h.off (hs ▸ hb)), h.blk.set i (by have h2 : Nat.ble (i + 1) cs.length = true := hi; exact Nat.le_of_ble_eq_true h2) v, h.fr.trans f (fun b _ hb => Or.inr hb), h.off⟩
end
def RPostS (B : Nat) (w : World) (g : Nat) (R : RefB) (rv : Value) (gq : Nat) (T : TypeId) (o : Nat) (A Z cs : List Value) (st : MSt) (e : Ending) (w' : World) : Prop := (∃ u, e = .returned u) ∧ RS B w w' g R rv gq T o A Z cs st
section
variable {B : Nat} {w : World} {g : Nat} {R : RefB} {rv : Value} {gq : Nat} {T : TypeId} {o : Nat} {A Z : List Value} {st : MSt} {t s l b : Nat} {tn : Int} {r : RPo}
set_option maxRecDepth 100000 in
set_option maxHeartbeats 8000000 in
theorem spop_ok (h : IsRMem B w g R rv st) (sd : Sound st.dev) (hc : Calm st) (c : CfgN t s l b) (ok : Okay (layF t s l b)) (hb : Sub w gq T o A Z (r.cells t s l b tn)) (ho : ¬ rfoot g R rv gq) (hr : r.Wf) (hU : ∀ a, W64 (peekV st a)) :
    Calls Tryz.prog 161 #[.pointer (some ⟨gq, o, none⟩), .pointer (some ⟨g, 0, none⟩)] w (RPostS B w g R rv gq T o A Z ((rpopS (layF t s l b) tn r st).1.cells t s l b tn) (rpopS (layF t s l b) tn r st).2) := by
  obtain ⟨line, top, nx, slot⟩ := r
  obtain ⟨hl, ht, hn⟩ := hr
  simp only at hl ht hn
  have M0 := Lib.hid (RS.of h hb ho)
  have HTo : Hid (∀ W v, W64 v → Calls Tryz.prog 138 #[.int .u64 v] W fun e w' => e = .returned (.int .i64 (toN v)) ∧ Ext W w') := Lib.hid (fun W v hv => rto_any v hv.1 hv.2 W)
  have HAf := Lib.hid (fun W n => rafter_ok (t := t) (s := s) (l := l) (b := b) c n W)
  rcases hl with rfl | rfl | rfl | rfl
  · have e : rpopS (layF t s l b) tn ⟨0, top, nx, slot⟩ st = (⟨0, top, nx, slot⟩, st) := rfl
    rw [e]
    have c5 : w.cell? ⟨gq, o + 5, none⟩ = some (.int .i64 0) := hb.cell 5
    clear h hb sd hc hU
    go_enter Tryz.func161, Tryz.ntmps161
    go_wp2_with fail
    (first | (refine bodyPost_ret (results_none rfl _ _ _) rfl ?_) | (refine bodyPost_end (results_none rfl _ _ _) rfl ?_))
    exact ⟨⟨_, rfl⟩, M0.out⟩
  · have e : rpopS (layF t s l b) tn ⟨1, top, nx, slot⟩ st = (⟨if toN (peekV st (-2)) < 0 then 0 else 2, peekV st (-2), nx, slot⟩, st.load tn (-2)) := rfl
    rw [e]
    have HL := Lib.hid (refLoad7v h sd hc tn (-2) 0 0 (by decide) (by decide))
    obtain ⟨a1, a2, a3, a4, a5, ha⟩ := load_tells st tn (-2)
    rw [ha] at HL
    have hf3 := fun W => fldA3 a1 a2 a3 (peekV st (-2)) a4 a5 W
    have hv := hU (-2)
    have HV := Lib.hid hv
    generalize peekV st (-2) = v at *
    generalize st.load tn (-2) = st1 at *
    obtain ⟨ln, hln⟩ : ∃ ln : Int, (if toN v < 0 then (0 : Int) else 2) = ln := ⟨_, rfl⟩
    rw [hln]
    have HLn := Lib.hid hln
    clear hln
    have c5 : w.cell? ⟨gq, o + 5, none⟩ = some (.int .i64 1) := hb.cell 5
    have c4 : w.cell? ⟨gq, o + 4, none⟩ = some (.int .i64 tn) := hb.cell 4
    clear h hb sd hc hU hv ha e
    go_enter Tryz.func161, Tryz.ntmps161
    go_wp2_with fail
    refine HL.out.mono ?_
    rintro e w1 ⟨rfl, r1, f1⟩
    have m1 := M0.out.to r1 f1
    have c6 : w1.cell? ⟨gq, o + 6, none⟩ = some (.int .u64 top) := m1.blk.cell 6
    have z6 : w1.frozen? ⟨gq, o + 6, none⟩ = false := m1.blk.frozen 6
    have m2 := m1.put 6 (.int .u64 v)
    have c5b : (w1.setCell ⟨gq, o + 6, none⟩ (.int .u64 v)).cell? ⟨gq, o + 5, none⟩ = some (.int .i64 1) := m2.blk.cell 5
    have z5b : (w1.setCell ⟨gq, o + 6, none⟩ (.int .u64 v)).frozen? ⟨gq, o + 5, none⟩ = false := m2.blk.frozen 5
    have m3 := m2.put 5 (.int .i64 2)
    have c6b : ((w1.setCell ⟨gq, o + 6, none⟩ (.int .u64 v)).setCell ⟨gq, o + 5, none⟩ (.int .i64 2)).cell? ⟨gq, o + 6, none⟩ = some (.int .u64 v) := m3.blk.cell 6
    have M3 := Lib.hid m3
    clear r1 f1 m1 m2 m3 M0
    go_wp2_with fail
    refine (HTo.out _ v HV.out).mono ?_
    rintro e w4 ⟨rfl, x4⟩
    have m4 := M3.out.ext x4
    have c5c : w4.cell? ⟨gq, o + 5, none⟩ = some (.int .i64 2) := m4.blk.cell 5
    have z5c : w4.frozen? ⟨gq, o + 5, none⟩ = false := m4.blk.frozen 5
    have M4 := Lib.hid m4
    have M5 := Lib.hid (m4.put 5 (.int .i64 0))
    clear x4 m4 c6 z6 c5b z5b c6b
    by_cases hneg : toN v < 0
    · have d1 : decide (toN v < 0) = true := by simp; omega
      go_wp2_with fail
      (first | (refine bodyPost_ret (results_none rfl _ _ _) rfl ?_) | (refine bodyPost_end (results_none rfl _ _ _) rfl ?_))
      exact ⟨⟨_, rfl⟩, by rw [← HLn.out, if_pos hneg]; exact M5.out⟩
    · have d1 : decide (toN v < 0) = false := by simp; omega
      go_wp2_with fail
      (first | (refine bodyPost_ret (results_none rfl _ _ _) rfl ?_) | (refine bodyPost_end (results_none rfl _ _ _) rfl ?_))
      exact ⟨⟨_, rfl⟩, by rw [← HLn.out, if_neg (by omega)]; exact M4.out⟩
  · have e : rpopS (layF t s l b) tn ⟨2, top, nx, slot⟩ st = (⟨3, top, peekV st (aft (layF t s l b) (toN top)), slot⟩, st.load tn (aft (layF t s l b) (toN top))) := rfl
    rw [e]
    have har := aft_rng ok (toN top)
    have HL : Hid (∀ W, RS B w W g R rv gq T o A Z (RPo.cells ⟨2, top, nx, slot⟩ t s l b tn) st → Calls Tryz.prog 50 #[.pointer (some ⟨g, 0, none⟩), .int .i64 1, .int .i64 tn, .int .i64 (aft (layF t s l b) (toN top)), .int .u64 0, .int .u64 0] W fun e w' => e = .returned (accV (st.load tn (aft (layF t s l b) (toN top))).last) ∧ RS B w w' g R rv gq T o A Z (RPo.cells ⟨2, top, nx, slot⟩ t s l b tn) (st.load tn (aft (layF t s l b) (toN top)))) := Lib.hid (fun W m => (refLoad7v m.ref sd hc tn _ 0 0 har.1 har.2).mono (by rintro e w' ⟨rfl, r1, f1⟩; exact ⟨rfl, m.to r1 f1⟩))
    obtain ⟨a1, a2, a3, a4, a5, ha⟩ := load_tells st tn (aft (layF t s l b) (toN top))
    rw [ha] at HL
    have hf3 := fun W => fldA3 a1 a2 a3 (peekV st (aft (layF t s l b) (toN top))) a4 a5 W
    have HTo1 := Lib.hid (fun W => HTo.out W top ht)
    have HAf1 := Lib.hid (fun W => HAf.out W (toN top))
    generalize peekV st (aft (layF t s l b) (toN top)) = v at *
    generalize st.load tn (aft (layF t s l b) (toN top)) = st1 at *
    generalize aft (layF t s l b) (toN top) = a at *
    generalize toN top = f at *
    have HP : Hid (∀ W s', RS B w W g R rv gq T o A Z (RPo.cells ⟨2, top, nx, slot⟩ t s l b tn) s' → (W.cell? ⟨gq, o, none⟩ = some (.int .i64 t) ∧ W.cell? ⟨gq, o + 1, none⟩ = some (.int .i64 s) ∧ W.cell? ⟨gq, o + 2, none⟩ = some (.int .i64 l) ∧ W.cell? ⟨gq, o + 3, none⟩ = some (.int .i64 b)) ∧ W.cell? ⟨gq, o + 4, none⟩ = some (.int .i64 tn) ∧ W.cell? ⟨gq, o + 6, none⟩ = some (.int .u64 top)) := Lib.hid (fun W s' m => ⟨⟨m.blk.cell 0, m.blk.cell 1, m.blk.cell 2, m.blk.cell 3⟩, m.blk.cell 4, m.blk.cell 6⟩)
    have HP2 : Hid (∀ W s' u, RS B w W g R rv gq T o A Z (RPo.cells ⟨2, top, nx, slot⟩ t s l b tn) s' → ((W.setCell ⟨gq, o + 7, none⟩ u).cell? ⟨gq, o, none⟩ = some (.int .i64 t) ∧ (W.setCell ⟨gq, o + 7, none⟩ u).cell? ⟨gq, o + 1, none⟩ = some (.int .i64 s) ∧ (W.setCell ⟨gq, o + 7, none⟩ u).cell? ⟨gq, o + 2, none⟩ = some (.int .i64 l) ∧ (W.setCell ⟨gq, o + 7, none⟩ u).cell? ⟨gq, o + 3, none⟩ = some (.int .i64 b)) ∧ (W.setCell ⟨gq, o + 7, none⟩ u).cell? ⟨gq, o + 4, none⟩ = some (.int .i64 tn) ∧ (W.setCell ⟨gq, o + 7, none⟩ u).cell? ⟨gq, o + 6, none⟩ = some (.int .u64 top)) := Lib.hid (fun W s' u m => ⟨⟨(m.put 7 u).blk.cell 0, (m.put 7 u).blk.cell 1, (m.put 7 u).blk.cell 2, (m.put 7 u).blk.cell 3⟩, (m.put 7 u).blk.cell 4, (m.put 7 u).blk.cell 6⟩)
    have M := Lib.hid (M0.out.ext ((Ext.refl w).drew))
    have c5 : w.cell? ⟨gq, o + 5, none⟩ = some (.int .i64 2) := hb.cell 5
    have c0 : w.cell? ⟨gq, o, none⟩ = some (.int .i64 t) := hb.cell 0
    have c1 : w.cell? ⟨gq, o + 1, none⟩ = some (.int .i64 s) := hb.cell 1
    have c2 : w.cell? ⟨gq, o + 2, none⟩ = some (.int .i64 l) := hb.cell 2
    have c3 : w.cell? ⟨gq, o + 3, none⟩ = some (.int .i64 b) := hb.cell 3
    have c4 : w.cell? ⟨gq, o + 4, none⟩ = some (.int .i64 tn) := hb.cell 4
    have c6 : w.cell? ⟨gq, o + 6, none⟩ = some (.int .u64 top) := hb.cell 6
    clear h hb sd hc hU ha e har M0 HTo HAf
    go_enter Tryz.func161, Tryz.ntmps161
    go_wp2_with fail
    go_region_held3 (fun W => (W.cell? ⟨gq, o, none⟩ = some (.int .i64 t) ∧ W.cell? ⟨gq, o + 1, none⟩ = some (.int .i64 s) ∧ W.cell? ⟨gq, o + 2, none⟩ = some (.int .i64 l) ∧ W.cell? ⟨gq, o + 3, none⟩ = some (.int .i64 b)) ∧ W.cell? ⟨gq, o + 4, none⟩ = some (.int .i64 tn) ∧ W.cell? ⟨gq, o + 6, none⟩ = some (.int .u64 top)) (first | exact HP.out _ _ M.out | exact HP2.out _ _ _ M.out | go_keep) (first
      | (go_at_call 138; refine (HTo1.out _).mono ?_; rintro e w1 ⟨rfl, x1⟩; replace M := Lib.hid (M.out.ext x1); clear x1)
      | (go_at_call 190; refine (HAf1.out _).mono ?_; rintro e w1 ⟨rfl, x1⟩; replace M := Lib.hid (M.out.ext x1); clear x1)
      | (go_at_call 50; refine (HL.out _ M.out).mono ?_; rintro e w1 ⟨rfl, m1⟩; replace M := Lib.hid m1; have y7 : w1.cell? ⟨gq, o + 7, none⟩ = some (.int .u64 nx) := M.out.blk.cell 7; have z7 : w1.frozen? ⟨gq, o + 7, none⟩ = false := M.out.blk.frozen 7; clear m1))
    all_goals
      have y5 : w1.cell? ⟨gq, o + 5, none⟩ = some (.int .i64 2) := M.out.blk.cell 5
      have z5 : w1.frozen? ⟨gq, o + 5, none⟩ = false := M.out.blk.frozen 5
      have M2 := Lib.hid ((M.out.put 7 (.int .u64 v)).put 5 (.int .i64 3))
      go_wp2_with fail
      (first | (refine bodyPost_ret (results_none rfl _ _ _) rfl ?_) | (refine bodyPost_end (results_none rfl _ _ _) rfl ?_))
      exact ⟨⟨_, rfl⟩, M2.out⟩
  · have e : rpopS (layF t s l b) tn ⟨3, top, nx, slot⟩ st = (if swapB st (-2) top = true then ⟨0, top, nx, toN top⟩ else ⟨1, top, nx, slot⟩, st.swap tn (-2) top (topN (toN nx) (ver1 top))) := rfl
    rw [e]
    have hnr := toN_rng hn
    have hv1 := ver1_rng top
    have HSw : Hid (∀ W cs, RS B w W g R rv gq T o A Z cs st → Calls Tryz.prog 50 #[.pointer (some ⟨g, 0, none⟩), .int .i64 3, .int .i64 tn, .int .i64 (-2), .int .u64 top, .int .u64 (topN (toN nx) (ver1 top))] W fun e w' => e = .returned (accV (st.swap tn (-2) top (topN (toN nx) (ver1 top))).last) ∧ RS B w w' g R rv gq T o A Z cs (st.swap tn (-2) top (topN (toN nx) (ver1 top)))) := Lib.hid (fun W cs m => (refSwap7v m.ref sd hc tn (-2) top _ (by decide) (by decide)).mono (by rintro e w' ⟨rfl, r1, f1⟩; exact ⟨rfl, m.to r1 f1⟩))
    obtain ⟨a1, a2, a3, a4, a5, ha⟩ := swap_tells st tn (-2) top (topN (toN nx) (ver1 top))
    rw [ha] at HSw
    have hf5 := fun W => fldA5 a1 a2 a3 a4 a5 (swapB st (-2) top) W
    have HTn := Lib.hid (fun W => HTo.out W nx hn)
    have HTt := Lib.hid (fun W => HTo.out W top ht)
    have HVe : Hid (∀ W, Calls Tryz.prog 192 #[.int .u64 top] W fun e w' => e = .returned (.int .u32 (verN top)) ∧ Ext W w') := Lib.hid (fun W => rver_any top ht.1 ht.2 W)
    have HTp : Hid (∀ W, Calls Tryz.prog 191 #[.int .i64 (toN nx), .int .u32 (ver1 top)] W fun e w' => e = .returned (.int .u64 (topN (toN nx) (ver1 top))) ∧ Ext W w') := Lib.hid (fun W => rtop_any (toN nx) (ver1 top) (by omega) (by omega) hv1.1 hv1.2 W)
    have hvr := verN_rng ht
    have hwr : IntKind.u32.wrap (verN top + 1) = ver1 top := by unfold ver1; exact u32w (verN top + 1) (by omega) (by omega)
    generalize topN (toN nx) (ver1 top) = z at *
    generalize st.swap tn (-2) top z = st1 at *
    generalize swapB st (-2) top = d at *
    obtain ⟨rr, hrr⟩ : ∃ rr : RPo, (if d = true then (⟨0, top, nx, toN top⟩ : RPo) else ⟨1, top, nx, slot⟩) = rr := ⟨_, rfl⟩
    rw [hrr]
    generalize ver1 top = v1 at *
    generalize verN top = v0 at *
    generalize toN nx = fn at *
    generalize toN top = ft at *
    have HRr := Lib.hid hrr
    clear hrr
    have HP : Hid (∀ W s' cs, (∀ i, i = 4 ∨ i = 6 ∨ i = 7 → cs[i]? = (RPo.cells ⟨3, top, nx, slot⟩ t s l b tn)[i]?) → RS B w W g R rv gq T o A Z cs s' → W.cell? ⟨gq, o + 4, none⟩ = some (.int .i64 tn) ∧ W.cell? ⟨gq, o + 6, none⟩ = some (.int .u64 top) ∧ W.cell? ⟨gq, o + 7, none⟩ = some (.int .u64 nx)) := Lib.hid (fun W s' cs hcs m => ⟨m.blk.cell 4 ((hcs 4 (Or.inl rfl)).trans rfl), m.blk.cell 6 ((hcs 6 (Or.inr (Or.inl rfl))).trans rfl), m.blk.cell 7 ((hcs 7 (Or.inr (Or.inr rfl))).trans rfl)⟩)
    have M := Lib.hid (M0.out.ext ((Ext.refl w).drew))
    have c5 : w.cell? ⟨gq, o + 5, none⟩ = some (.int .i64 3) := hb.cell 5
    have c4 : w.cell? ⟨gq, o + 4, none⟩ = some (.int .i64 tn) := hb.cell 4
    have c6 : w.cell? ⟨gq, o + 6, none⟩ = some (.int .u64 top) := hb.cell 6
    have c7 : w.cell? ⟨gq, o + 7, none⟩ = some (.int .u64 nx) := hb.cell 7
    clear h hb sd hc hU ha e M0 HTo HAf hnr hv1 hvr
    go_enter Tryz.func161, Tryz.ntmps161
    go_wp2_with fail
    go_region_held3 (fun W => W.cell? ⟨gq, o + 4, none⟩ = some (.int .i64 tn) ∧ W.cell? ⟨gq, o + 6, none⟩ = some (.int .u64 top) ∧ W.cell? ⟨gq, o + 7, none⟩ = some (.int .u64 nx)) (first | exact HP.out _ _ _ (fun _ _ => rfl) M.out | go_keep) (first
      | (go_at_call 138; refine (HTn.out _).mono ?_; rintro e w1 ⟨rfl, x1⟩; replace M := Lib.hid (M.out.ext x1); clear x1)
      | (go_at_call 192; refine (HVe.out _).mono ?_; rintro e w1 ⟨rfl, x1⟩; replace M := Lib.hid (M.out.ext x1); clear x1)
      | (go_at_call 191; refine (HTp.out _).mono ?_; rintro e w1 ⟨rfl, x1⟩; replace M := Lib.hid (M.out.ext x1); clear x1))
    all_goals
      have y5 : w1.cell? ⟨gq, o + 5, none⟩ = some (.int .i64 3) := M.out.blk.cell 5
      have z5 : w1.frozen? ⟨gq, o + 5, none⟩ = false := M.out.blk.frozen 5
      have M2 : Hid (RS B w (w1.setCell ⟨gq, o + 5, none⟩ (.int .i64 1)) g R rv gq T o A Z (RPo.cells ⟨1, top, nx, slot⟩ t s l b tn) st) := Lib.hid (M.out.put 5 (.int .i64 1))
      go_upto_region 11 with fail
      generalize w1.setCell ⟨gq, o + 5, none⟩ (.int .i64 1) = w2 at *
      clear y5 z5 M
      have M := Lib.hid (M2.out.ext ((Ext.refl w2).drew))
      have c4 : w2.cell? ⟨gq, o + 4, none⟩ = some (.int .i64 tn) := M2.out.blk.cell 4
      have c6 : w2.cell? ⟨gq, o + 6, none⟩ = some (.int .u64 top) := M2.out.blk.cell 6
      clear M2
      go_wp2_with fail
      go_region_held3 (fun W => W.cell? ⟨gq, o + 4, none⟩ = some (.int .i64 tn) ∧ W.cell? ⟨gq, o + 6, none⟩ = some (.int .u64 top) ∧ W.cell? ⟨gq, o + 7, none⟩ = some (.int .u64 nx)) (first | exact HP.out _ _ _ (fun i hi => by rcases hi with rfl | rfl | rfl <;> rfl) M.out | go_keep) (first
        | (go_at_call 50; refine (HSw.out _ _ M.out).mono ?_; rintro e w1 ⟨rfl, m1⟩; replace M := Lib.hid m1; clear m1))
      all_goals
        cases d
        · go_wp2_with fail
          (first | (refine bodyPost_ret (results_none rfl _ _ _) rfl ?_) | (refine bodyPost_end (results_none rfl _ _ _) rfl ?_))
          exact ⟨⟨_, rfl⟩, by rw [← HRr.out]; exact M.out⟩
        · have k6 : w1.cell? ⟨gq, o + 6, none⟩ = some (.int .u64 top) := M.out.blk.cell 6
          go_wp2_with fail
          refine (HTt.out _).mono ?_
          rintro e w3 ⟨rfl, x3⟩
          have m3 := M.out.ext x3
          have k8 : w3.cell? ⟨gq, o + 8, none⟩ = some (.int .i64 slot) := m3.blk.cell 8
          have z8 : w3.frozen? ⟨gq, o + 8, none⟩ = false := m3.blk.frozen 8
          have m4 := m3.put 8 (.int .i64 ft)
          have k5 : (w3.setCell ⟨gq, o + 8, none⟩ (.int .i64 ft)).cell? ⟨gq, o + 5, none⟩ = some (.int .i64 1) := m4.blk.cell 5
          have z5 : (w3.setCell ⟨gq, o + 8, none⟩ (.int .i64 ft)).frozen? ⟨gq, o + 5, none⟩ = false := m4.blk.frozen 5
          have M5 := Lib.hid (m4.put 5 (.int .i64 0))
          clear m3 m4 x3
          go_wp2_with fail
          (first | (refine bodyPost_ret (results_none rfl _ _ _) rfl ?_) | (refine bodyPost_end (results_none rfl _ _ _) rfl ?_))
          exact ⟨⟨_, rfl⟩, by rw [← HRr.out]; exact M5.out⟩
end
section
variable {B : Nat} {w : World} {g : Nat} {R : RefB} {rv : Value} {gq : Nat} {T : TypeId} {o : Nat} {A Z : List Value} {st : MSt} {t s l b : Nat} {tn : Int} {r : RPu}
set_option maxRecDepth 100000 in
set_option maxHeartbeats 8000000 in
theorem spush_ok (h : IsRMem B w g R rv st) (sd : Sound st.dev) (hc : Calm st) (c : CfgN t s l b) (ok : Okay (layF t s l b)) (hb : Sub w gq T o A Z (r.cells t s l b tn)) (ho : ¬ rfoot g R rv gq) (hr : r.Wf) (hU : ∀ a, W64 (peekV st a)) :
    Calls Tryz.prog 140 #[.pointer (some ⟨gq, o, none⟩), .pointer (some ⟨g, 0, none⟩)] w (RPostS B w g R rv gq T o A Z ((rpushS (layF t s l b) tn r st).1.cells t s l b tn) (rpushS (layF t s l b) tn r st).2) := by
  obtain ⟨line, top, slot⟩ := r
  obtain ⟨hl, ht, hn⟩ := hr
  simp only at hl ht hn
  have M0 := Lib.hid (RS.of h hb ho)
  have HAf := Lib.hid (fun W n => rafter_ok (t := t) (s := s) (l := l) (b := b) c n W)
  rcases hl with rfl | rfl | rfl | rfl
  · have e : rpushS (layF t s l b) tn ⟨0, top, slot⟩ st = (⟨0, top, slot⟩, st) := rfl
    rw [e]
    have c5 : w.cell? ⟨gq, o + 5, none⟩ = some (.int .i64 0) := hb.cell 5
    clear h hb sd hc hU
    go_enter Tryz.func140, Tryz.ntmps140
    go_wp2_with fail
    (first | (refine bodyPost_ret (results_none rfl _ _ _) rfl ?_) | (refine bodyPost_end (results_none rfl _ _ _) rfl ?_))
    exact ⟨⟨_, rfl⟩, M0.out⟩
  · have e : rpushS (layF t s l b) tn ⟨1, top, slot⟩ st = (⟨2, peekV st (-2), slot⟩, st.load tn (-2)) := rfl
    rw [e]
    have HL := Lib.hid (refLoad7v h sd hc tn (-2) 0 0 (by decide) (by decide))
    obtain ⟨a1, a2, a3, a4, a5, ha⟩ := load_tells st tn (-2)
    rw [ha] at HL
    have hf3 := fun W => fldA3 a1 a2 a3 (peekV st (-2)) a4 a5 W
    generalize peekV st (-2) = v at *
    generalize st.load tn (-2) = st1 at *
    have c5 : w.cell? ⟨gq, o + 5, none⟩ = some (.int .i64 1) := hb.cell 5
    have c4 : w.cell? ⟨gq, o + 4, none⟩ = some (.int .i64 tn) := hb.cell 4
    clear h hb sd hc hU ha e
    go_enter Tryz.func140, Tryz.ntmps140
    go_wp2_with fail
    refine HL.out.mono ?_
    rintro e w1 ⟨rfl, r1, f1⟩
    have m1 := M0.out.to r1 f1
    have c6 : w1.cell? ⟨gq, o + 6, none⟩ = some (.int .u64 top) := m1.blk.cell 6
    have z6 : w1.frozen? ⟨gq, o + 6, none⟩ = false := m1.blk.frozen 6
    have m2 := m1.put 6 (.int .u64 v)
    have c5b : (w1.setCell ⟨gq, o + 6, none⟩ (.int .u64 v)).cell? ⟨gq, o + 5, none⟩ = some (.int .i64 1) := m2.blk.cell 5
    have z5b : (w1.setCell ⟨gq, o + 6, none⟩ (.int .u64 v)).frozen? ⟨gq, o + 5, none⟩ = false := m2.blk.frozen 5
    have M3 := Lib.hid (m2.put 5 (.int .i64 2))
    clear r1 f1 m1 m2 M0
    go_wp2_with fail
    (first | (refine bodyPost_ret (results_none rfl _ _ _) rfl ?_) | (refine bodyPost_end (results_none rfl _ _ _) rfl ?_))
    exact ⟨⟨_, rfl⟩, M3.out⟩
  · have e : rpushS (layF t s l b) tn ⟨2, top, slot⟩ st = (⟨3, top, slot⟩, st.store tn (aft (layF t s l b) slot) (toN top + 1)) := rfl
    rw [e]
    have har := aft_rng ok slot
    have htr := toN_rng ht
    have HL : Hid (∀ W, RS B w W g R rv gq T o A Z (RPu.cells ⟨2, top, slot⟩ t s l b tn) st → Calls Tryz.prog 50 #[.pointer (some ⟨g, 0, none⟩), .int .i64 2, .int .i64 tn, .int .i64 (aft (layF t s l b) slot), .int .u64 0, .int .u64 (toN top + 1)] W fun e w' => (∃ u, e = .returned u) ∧ RS B w w' g R rv gq T o A Z (RPu.cells ⟨2, top, slot⟩ t s l b tn) (st.store tn (aft (layF t s l b) slot) (toN top + 1))) := Lib.hid (fun W m => (refStore7v m.ref sd hc tn _ 0 (toN top + 1) har.1 har.2).mono (by rintro e w' ⟨rfl, r1, f1⟩; exact ⟨⟨_, rfl⟩, m.to r1 f1⟩))
    have HAf1 := Lib.hid (fun W => HAf.out W slot)
    have hmod : top.tmod 4294967296 = toN top + 1 := by
      rw [Int.tmod_eq_emod_of_nonneg ht.1]
      unfold toN
      omega
    have hmod2 : top % 4294967296 = toN top + 1 := by unfold toN; omega
    have wmod : IntKind.u64.wrap (toN top + 1) = toN top + 1 := u64w _ (by omega) (by omega)
    generalize st.store tn (aft (layF t s l b) slot) (toN top + 1) = st1 at *
    generalize aft (layF t s l b) slot = a at *
    generalize toN top + 1 = f at *
    have HP : Hid (∀ W s', RS B w W g R rv gq T o A Z (RPu.cells ⟨2, top, slot⟩ t s l b tn) s' → (W.cell? ⟨gq, o, none⟩ = some (.int .i64 t) ∧ W.cell? ⟨gq, o + 1, none⟩ = some (.int .i64 s) ∧ W.cell? ⟨gq, o + 2, none⟩ = some (.int .i64 l) ∧ W.cell? ⟨gq, o + 3, none⟩ = some (.int .i64 b)) ∧ W.cell? ⟨gq, o + 4, none⟩ = some (.int .i64 tn) ∧ W.cell? ⟨gq, o + 6, none⟩ = some (.int .u64 top) ∧ W.cell? ⟨gq, o + 7, none⟩ = some (.int .i64 slot)) := Lib.hid (fun W s' m => ⟨⟨m.blk.cell 0, m.blk.cell 1, m.blk.cell 2, m.blk.cell 3⟩, m.blk.cell 4, m.blk.cell 6, m.blk.cell 7⟩)
    have M := Lib.hid (M0.out.ext ((Ext.refl w).drew))
    have c5 : w.cell? ⟨gq, o + 5, none⟩ = some (.int .i64 2) := hb.cell 5
    have c0 : w.cell? ⟨gq, o, none⟩ = some (.int .i64 t) := hb.cell 0
    have c1 : w.cell? ⟨gq, o + 1, none⟩ = some (.int .i64 s) := hb.cell 1
    have c2 : w.cell? ⟨gq, o + 2, none⟩ = some (.int .i64 l) := hb.cell 2
    have c3 : w.cell? ⟨gq, o + 3, none⟩ = some (.int .i64 b) := hb.cell 3
    have c4 : w.cell? ⟨gq, o + 4, none⟩ = some (.int .i64 tn) := hb.cell 4
    have c6 : w.cell? ⟨gq, o + 6, none⟩ = some (.int .u64 top) := hb.cell 6
    have c7 : w.cell? ⟨gq, o + 7, none⟩ = some (.int .i64 slot) := hb.cell 7
    clear h hb sd hc hU e har htr M0 HAf
    go_enter Tryz.func140, Tryz.ntmps140
    go_wp2_with fail
    go_region_held3 (fun W => (W.cell? ⟨gq, o, none⟩ = some (.int .i64 t) ∧ W.cell? ⟨gq, o + 1, none⟩ = some (.int .i64 s) ∧ W.cell? ⟨gq, o + 2, none⟩ = some (.int .i64 l) ∧ W.cell? ⟨gq, o + 3, none⟩ = some (.int .i64 b)) ∧ W.cell? ⟨gq, o + 4, none⟩ = some (.int .i64 tn) ∧ W.cell? ⟨gq, o + 6, none⟩ = some (.int .u64 top) ∧ W.cell? ⟨gq, o + 7, none⟩ = some (.int .i64 slot)) (first | exact HP.out _ _ M.out | go_keep) (first
      | (go_at_call 190; refine (HAf1.out _).mono ?_; rintro e w1 ⟨rfl, x1⟩; replace M := Lib.hid (M.out.ext x1); clear x1)
      | (go_at_call 50; refine (HL.out _ M.out).mono ?_; rintro e w1 ⟨⟨u, rfl⟩, m1⟩; replace M := Lib.hid m1; clear m1))
    all_goals
      have y5 : w1.cell? ⟨gq, o + 5, none⟩ = some (.int .i64 2) := M.out.blk.cell 5
      have z5 : w1.frozen? ⟨gq, o + 5, none⟩ = false := M.out.blk.frozen 5
      have M2 := Lib.hid (M.out.put 5 (.int .i64 3))
      go_wp2_with fail
      (first | (refine bodyPost_ret (results_none rfl _ _ _) rfl ?_) | (refine bodyPost_end (results_none rfl _ _ _) rfl ?_))
      exact ⟨⟨_, rfl⟩, M2.out⟩
  · have e : rpushS (layF t s l b) tn ⟨3, top, slot⟩ st = (⟨if swapB st (-2) top = true then 0 else 1, top, slot⟩, st.swap tn (-2) top (topN slot (ver1 top))) := rfl
    rw [e]
    have hv1 := ver1_rng top
    have HSw : Hid (∀ W cs, RS B w W g R rv gq T o A Z cs st → Calls Tryz.prog 50 #[.pointer (some ⟨g, 0, none⟩), .int .i64 3, .int .i64 tn, .int .i64 (-2), .int .u64 top, .int .u64 (topN slot (ver1 top))] W fun e w' => e = .returned (accV (st.swap tn (-2) top (topN slot (ver1 top))).last) ∧ RS B w w' g R rv gq T o A Z cs (st.swap tn (-2) top (topN slot (ver1 top)))) := Lib.hid (fun W cs m => (refSwap7v m.ref sd hc tn (-2) top _ (by decide) (by decide)).mono (by rintro e w' ⟨rfl, r1, f1⟩; exact ⟨rfl, m.to r1 f1⟩))
    obtain ⟨a1, a2, a3, a4, a5, ha⟩ := swap_tells st tn (-2) top (topN slot (ver1 top))
    rw [ha] at HSw
    have hf5 := fun W => fldA5 a1 a2 a3 a4 a5 (swapB st (-2) top) W
    have HVe : Hid (∀ W, Calls Tryz.prog 192 #[.int .u64 top] W fun e w' => e = .returned (.int .u32 (verN top)) ∧ Ext W w') := Lib.hid (fun W => rver_any top ht.1 ht.2 W)
    have HTp : Hid (∀ W, Calls Tryz.prog 191 #[.int .i64 slot, .int .u32 (ver1 top)] W fun e w' => e = .returned (.int .u64 (topN slot (ver1 top))) ∧ Ext W w') := Lib.hid (fun W => rtop_any slot (ver1 top) hn.1 hn.2 hv1.1 hv1.2 W)
    have hvr := verN_rng ht
    have hwr : IntKind.u32.wrap (verN top + 1) = ver1 top := by unfold ver1; exact u32w (verN top + 1) (by omega) (by omega)
    generalize topN slot (ver1 top) = z at *
    generalize st.swap tn (-2) top z = st1 at *
    generalize swapB st (-2) top = d at *
    obtain ⟨ln, hln⟩ : ∃ ln : Int, (if d = true then (0 : Int) else 1) = ln := ⟨_, rfl⟩
    rw [hln]
    have HLn := Lib.hid hln
    clear hln
    generalize ver1 top = v1 at *
    generalize verN top = v0 at *
    have M1 : Hid (RS B w (w.setCell ⟨gq, o + 5, none⟩ (.int .i64 1)) g R rv gq T o A Z (RPu.cells ⟨1, top, slot⟩ t s l b tn) st) := Lib.hid (M0.out.put 5 (.int .i64 1))
    have HP : Hid (∀ W s', RS B w W g R rv gq T o A Z (RPu.cells ⟨1, top, slot⟩ t s l b tn) s' → W.cell? ⟨gq, o + 4, none⟩ = some (.int .i64 tn) ∧ W.cell? ⟨gq, o + 6, none⟩ = some (.int .u64 top) ∧ W.cell? ⟨gq, o + 7, none⟩ = some (.int .i64 slot)) := Lib.hid (fun W s' m => ⟨m.blk.cell 4, m.blk.cell 6, m.blk.cell 7⟩)
    have c5 : w.cell? ⟨gq, o + 5, none⟩ = some (.int .i64 3) := hb.cell 5
    have z5 : w.frozen? ⟨gq, o + 5, none⟩ = false := hb.frozen 5
    clear h hb sd hc hU ha e M0 HAf hv1 hvr
    go_enter Tryz.func140, Tryz.ntmps140
    go_upto_region 8 with fail
    generalize w.setCell ⟨gq, o + 5, none⟩ (.int .i64 1) = w2 at *
    clear c5 z5
    have M := Lib.hid (M1.out.ext ((Ext.refl w2).drew))
    have c4 : w2.cell? ⟨gq, o + 4, none⟩ = some (.int .i64 tn) := M1.out.blk.cell 4
    have c6 : w2.cell? ⟨gq, o + 6, none⟩ = some (.int .u64 top) := M1.out.blk.cell 6
    have c7 : w2.cell? ⟨gq, o + 7, none⟩ = some (.int .i64 slot) := M1.out.blk.cell 7
    clear M1
    go_wp2_with fail
    go_region_held3 (fun W => W.cell? ⟨gq, o + 4, none⟩ = some (.int .i64 tn) ∧ W.cell? ⟨gq, o + 6, none⟩ = some (.int .u64 top) ∧ W.cell? ⟨gq, o + 7, none⟩ = some (.int .i64 slot)) (first | exact HP.out _ _ M.out | go_keep) (first
      | (go_at_call 192; refine (HVe.out _).mono ?_; rintro e w1 ⟨rfl, x1⟩; replace M := Lib.hid (M.out.ext x1); clear x1)
      | (go_at_call 191; refine (HTp.out _).mono ?_; rintro e w1 ⟨rfl, x1⟩; replace M := Lib.hid (M.out.ext x1); clear x1)
      | (go_at_call 50; refine (HSw.out _ _ M.out).mono ?_; rintro e w1 ⟨rfl, m1⟩; replace M := Lib.hid m1; clear m1))
    all_goals
      have k5 : w1.cell? ⟨gq, o + 5, none⟩ = some (.int .i64 1) := M.out.blk.cell 5
      have z5 : w1.frozen? ⟨gq, o + 5, none⟩ = false := M.out.blk.frozen 5
      have M5 := Lib.hid (M.out.put 5 (.int .i64 0))
      cases d
      · go_wp2_with fail
        (first | (refine bodyPost_ret (results_none rfl _ _ _) rfl ?_) | (refine bodyPost_end (results_none rfl _ _ _) rfl ?_))
        exact ⟨⟨_, rfl⟩, by rw [← HLn.out]; exact M.out⟩
      · go_wp2_with fail
        (first | (refine bodyPost_ret (results_none rfl _ _ _) rfl ?_) | (refine bodyPost_end (results_none rfl _ _ _) rfl ?_))
        exact ⟨⟨_, rfl⟩, by rw [← HLn.out]; exact M5.out⟩
end
end Go.Proofs.YtbicloceaddinaaGreat


/- Several threads that take slots and give them back between one another: what holds, and what a step keeps. Conditions: those that each theorem names. -/
namespace Go.Proofs.YtbicloceaddinaaGreat
open Go.ChangeShapes Go.WideShapes Go.ChangeAt Go.RowKit
set_option linter.unusedVariables false
section
variable {t s l b n : Nat}
end
end Go.Proofs.YtbicloceaddinaaGreat


/- Several machines between one another, with a row of what each thread has: how they lie, and what a step of one leaves. Conditions: those that each theorem names. -/
namespace Go.Proofs.YtbicloceaddinaaGreat
open Go.ChangeShapes Go.WideShapes Go.ChangeAt Go.RowKit
set_option linter.unusedVariables false
abbrev Owned := Option (Nat × TypeId × List Value)
section
variable {C : TypeId} {w1 w w' : World} {gm gl gh : Nat} {dv pv : Value} {F : Nat → Int} {rows : List (List Value)} {os : List Owned} {s s' : MSt}
end
end Go.Proofs.YtbicloceaddinaaGreat


/- Threads that come in, go out and advance between one another: what holds, and what a step keeps. Conditions: those that each theorem names. -/
namespace Go.Proofs.YtbicloceaddinaaGreat
open Go.ChangeShapes Go.WideShapes Go.ChangeAt Go.RowKit
set_option linter.unusedVariables false
/-- What a thread does. -/
inductive Mc where
  | non : Mc
  | ent : Nat → EMs → Mc
  | lea : Nat → Bool → Mc
  | adv : Nat → AMs → Mc
def Mc.dn : Mc → Bool
  | .non => true
  | .ent _ x => x.1
  | .lea _ d => d
  | .adv _ x => x.dn
def Mc.S (F : Nat → Int) (T : Nat) (t : Int) : Mc → MSt → Mc × MSt
  | .non, s => (.non, s)
  | .ent g x, s => (.ent g (enterS F t x s).1, (enterS F t x s).2)
  | .lea g d, s => (.lea g true, if d = true then s else s.store t (ann F t) 0)
  | .adv g x, s => (.adv g (advS F T t x s).1, (advS F T t x s).2)
def Mc.pE : Mc → Option Addr
  | .ent g _ => some ⟨g, 0, none⟩
  | _ => none
def Mc.pL : Mc → Option Addr
  | .lea g _ => some ⟨g, 0, none⟩
  | _ => none
def Mc.pA : Mc → Option Addr
  | .adv g _ => some ⟨g, 0, none⟩
  | _ => none
/-- A thread: what it does, whether it is in, and which epoch there was when it came in. -/
structure EH where
  m : Mc
  inn : Bool
  a0 : Int
def EH.cells (h : EH) : List Value := [.pointer h.m.pE, .pointer h.m.pL, .pointer h.m.pA, .bool h.inn, .int .u64 h.a0]
section
variable {t s l b n : Nat} {hs : List EH} {st st' : MSt} {i : Nat} {h0 h' : EH}
end
end Go.Proofs.YtbicloceaddinaaGreat


/- The document's machine of layer 10, each step. Conditions: those that each theorem names. -/
namespace Go.Proofs.YtbicloceaddinaaGreat
open Go.ChangeShapes Go.WideShapes Go.ChangeAt Go.RowKit
set_option linter.unusedVariables false
structure RMa where
  kind : Int
  line : Int
  now : Int
  mv : Bool
def RMa.cells (r : RMa) (t s l b tn : Int) : List Value := [.int .i64 t, .int .i64 s, .int .i64 l, .int .i64 b, .int .i64 tn, .int .i64 r.kind, .int .i64 r.line, .int .u64 r.now, .bool r.mv]
section
variable {B : Nat} {w : World} {g : Nat} {R : RefB} {rv : Value} {gq : Nat} {st : MSt} {t s l b : Nat} {tn now kind line : Int} {mv : Bool}
end
end Go.Proofs.YtbicloceaddinaaGreat


/- The document's Advance inside others, each step, beside an Advance of the program. Conditions: those that each theorem names. -/
namespace Go.Proofs.YtbicloceaddinaaGreat
open Go.ChangeShapes Go.WideShapes Go.ChangeAt Go.RowKit
set_option linter.unusedVariables false
section
variable {B : Nat} {w : World} {g : Nat} {R : RefB} {rv : Value} {gq : Nat} {T : TypeId} {o : Nat} {A Z : List Value} {st : MSt} {t s l b : Nat} {tn : Int} {now kind line : Int} {mv : Bool}
set_option maxRecDepth 100000 in
set_option maxHeartbeats 4000000 in
theorem sm_done (h : IsRMem B w g R rv st) (hb : Sub w gq T o A Z (RMa.cells ⟨kind, 0, now, mv⟩ t s l b tn)) (ho : ¬ rfoot g R rv gq) :
    Calls Tryz.prog 94 #[.pointer (some ⟨gq, o, none⟩), .pointer (some ⟨g, 0, none⟩)] w (RPostS B w g R rv gq T o A Z (RMa.cells ⟨kind, 0, now, mv⟩ t s l b tn) st) := by
    have M0 := Lib.hid (RS.of h hb ho)
    have c6 : w.cell? ⟨gq, o + 6, none⟩ = some (.int .i64 0) := hb.cell 6
    clear h hb
    go_enter Tryz.func94, Tryz.ntmps94
    go_wp2_with fail
    (first | (refine bodyPost_ret (results_none rfl _ _ _) rfl ?_) | (refine bodyPost_end (results_none rfl _ _ _) rfl ?_))
    exact ⟨⟨_, rfl⟩, M0.out⟩
set_option maxRecDepth 100000 in
set_option maxHeartbeats 4000000 in
theorem sm_load (h : IsRMem B w g R rv st) (sd : Sound st.dev) (hc : Calm st) (hk : kind = 0 ∨ kind = 2) (hb : Sub w gq T o A Z (RMa.cells ⟨kind, 1, now, mv⟩ t s l b tn)) (ho : ¬ rfoot g R rv gq) :
    Calls Tryz.prog 94 #[.pointer (some ⟨gq, o, none⟩), .pointer (some ⟨g, 0, none⟩)] w (RPostS B w g R rv gq T o A Z (RMa.cells ⟨kind, 2, peekV st (-1), mv⟩ t s l b tn) (st.load tn (-1))) := by
    have M0 := Lib.hid (RS.of h hb ho)
    have HL := Lib.hid (refLoad7v h sd hc tn (-1) 0 0 (by decide) (by decide))
    obtain ⟨a1, a2, a3, a4, a5, ha⟩ := load_tells st tn (-1)
    rw [ha] at HL
    have hf3 := fun W => fldA3 a1 a2 a3 (peekV st (-1)) a4 a5 W
    have k1 : (kind == 1) = false := by rw [beq_eq_false_iff_ne]; omega
    have k1' : ¬ kind = 1 := by omega
    generalize peekV st (-1) = v at *
    generalize st.load tn (-1) = st1 at *
    have c6 : w.cell? ⟨gq, o + 6, none⟩ = some (.int .i64 1) := hb.cell 6
    have c5 : w.cell? ⟨gq, o + 5, none⟩ = some (.int .i64 kind) := hb.cell 5
    have c4 : w.cell? ⟨gq, o + 4, none⟩ = some (.int .i64 tn) := hb.cell 4
    clear h hb sd hc ha hk
    go_enter Tryz.func94, Tryz.ntmps94
    go_wp2_with fail
    refine HL.out.mono ?_
    rintro e w1 ⟨rfl, r1, f1⟩
    have m1 := M0.out.to r1 f1
    have d7 : w1.cell? ⟨gq, o + 7, none⟩ = some (.int .u64 now) := m1.blk.cell 7
    have z7 : w1.frozen? ⟨gq, o + 7, none⟩ = false := m1.blk.frozen 7
    have m2 := m1.put 7 (.int .u64 v)
    have d6 : (w1.setCell ⟨gq, o + 7, none⟩ (.int .u64 v)).cell? ⟨gq, o + 6, none⟩ = some (.int .i64 1) := m2.blk.cell 6
    have z6 : (w1.setCell ⟨gq, o + 7, none⟩ (.int .u64 v)).frozen? ⟨gq, o + 6, none⟩ = false := m2.blk.frozen 6
    have M3 := Lib.hid (m2.put 6 (.int .i64 2))
    clear r1 f1 m1 m2 M0 c4 c5 c6
    go_wp2_with fail
    (first | (refine bodyPost_ret (results_none rfl _ _ _) rfl ?_) | (refine bodyPost_end (results_none rfl _ _ _) rfl ?_))
    exact ⟨⟨_, rfl⟩, M3.out⟩
set_option maxRecDepth 100000 in
set_option maxHeartbeats 4000000 in
theorem sm_ask (h : IsRMem B w g R rv st) (sd : Sound st.dev) (hc : Calm st) (c : CfgN t s l b) (ok : Okay (layF t s l b)) (hw : W64 now) {k : Nat} (hk : k < t) (ht : t ≤ 1000) (hb : Sub w gq T o A Z (RMa.cells ⟨2, (k : Int) + 2, now, mv⟩ t s l b tn)) (ho : ¬ rfoot g R rv gq) :
    Calls Tryz.prog 94 #[.pointer (some ⟨gq, o, none⟩), .pointer (some ⟨g, 0, none⟩)] w (RPostS B w g R rv gq T o A Z (RMa.cells ⟨2, if holds now (peekV st (ann (layF t s l b) k)) = true then 0 else (k : Int) + 3, now, mv⟩ t s l b tn) (st.load tn (ann (layF t s l b) k))) := by
    have M0 := Lib.hid (RS.of h hb ho)
    have har := ann_rng ok (k : Int)
    have HL : Hid (∀ W, RS B w W g R rv gq T o A Z (RMa.cells ⟨2, (k : Int) + 2, now, mv⟩ t s l b tn) st → Calls Tryz.prog 50 #[.pointer (some ⟨g, 0, none⟩), .int .i64 1, .int .i64 tn, .int .i64 (ann (layF t s l b) k), .int .u64 0, .int .u64 0] W fun e w' => e = .returned (accV (st.load tn (ann (layF t s l b) k)).last) ∧ RS B w w' g R rv gq T o A Z (RMa.cells ⟨2, (k : Int) + 2, now, mv⟩ t s l b tn) (st.load tn (ann (layF t s l b) k))) := Lib.hid (fun W m => (refLoad7v m.ref sd hc tn _ 0 0 har.1 har.2).mono (by rintro e w' ⟨rfl, r1, f1⟩; exact ⟨rfl, m.to r1 f1⟩))
    obtain ⟨a1, a2, a3, a4, a5, ha⟩ := load_tells st tn (ann (layF t s l b) k)
    rw [ha] at HL
    have HAn := Lib.hid (fun W => rann_ok (t := t) (s := s) (l := l) (b := b) c (k : Int) W)
    have hf3 := fun W => fldA3 a1 a2 a3 (peekV st (ann (layF t s l b) k)) a4 a5 W
    have hwn : IntKind.u64.wrap (now + 1) = next64 now := by unfold next64 IntKind.wrap; simp [IntKind.signed, IntKind.bits]
    have wk : (k : Int) + 2 - 2 = (k : Int) := by omega
    have wk2 : IntKind.i64.wrap ((k : Int) + 2 - 2) = (k : Int) := by rw [wk]; exact i64w _ (by omega) (by omega)
    have wk2' : IntKind.i64.wrap (k : Int) = (k : Int) := i64w _ (by omega) (by omega)
    have wk3 : IntKind.i64.wrap ((k : Int) + 2 + 1) = (k : Int) + 3 := by rw [show (k : Int) + 2 + 1 = (k : Int) + 3 by omega]; exact i64w _ (by omega) (by omega)
    have k0 : ((k : Int) + 2 == 0) = false := by rw [beq_eq_false_iff_ne]; omega
    have k0' : ¬ (k : Int) + 2 = 0 := by omega
    have k1 : ((k : Int) + 2 == 1) = false := by rw [beq_eq_false_iff_ne]; omega
    have k1' : ¬ (k : Int) + 2 = 1 := by omega
    have dk : decide ((k : Int) < (t : Int)) = true := by simp; omega
    have dk' : decide (k < t) = true := by simp; omega
    obtain ⟨v, hv⟩ : ∃ v, peekV st (ann (layF t s l b) k) = v := ⟨_, rfl⟩
    rw [hv] at hf3 ha HL
    rw [hv]
    obtain ⟨nx, hnx⟩ : ∃ nx, next64 now = nx := ⟨_, rfl⟩
    have hh : holds now v = ((v != 0) && (v != nx)) := by unfold holds; rw [hnx]
    rw [hnx] at hwn
    obtain ⟨hd, hhd⟩ : ∃ hd, holds now v = hd := ⟨_, rfl⟩
    rw [hhd]
    rw [hhd] at hh
    obtain ⟨ln, hln⟩ : ∃ ln : Int, (if hd = true then (0 : Int) else (k : Int) + 3) = ln := ⟨_, rfl⟩
    rw [hln]
    have HLn := Lib.hid hln
    have HHh := Lib.hid hh
    generalize st.load tn (ann (layF t s l b) k) = st1 at *
    generalize ann (layF t s l b) k = a at *
    generalize (k : Int) + 2 = q at *
    have HP : Hid (∀ W s', RS B w W g R rv gq T o A Z (RMa.cells ⟨2, q, now, mv⟩ t s l b tn) s' → (W.cell? ⟨gq, o, none⟩ = some (.int .i64 t) ∧ W.cell? ⟨gq, o + 1, none⟩ = some (.int .i64 s) ∧ W.cell? ⟨gq, o + 2, none⟩ = some (.int .i64 l) ∧ W.cell? ⟨gq, o + 3, none⟩ = some (.int .i64 b)) ∧ W.cell? ⟨gq, o + 4, none⟩ = some (.int .i64 tn) ∧ W.cell? ⟨gq, o + 6, none⟩ = some (.int .i64 q) ∧ W.cell? ⟨gq, o + 7, none⟩ = some (.int .u64 now)) := Lib.hid (fun W s' m => ⟨⟨m.blk.cell 0, m.blk.cell 1, m.blk.cell 2, m.blk.cell 3⟩, m.blk.cell 4, m.blk.cell 6, m.blk.cell 7⟩)
    have HP2 : Hid (∀ W s' u, RS B w W g R rv gq T o A Z (RMa.cells ⟨2, q, now, mv⟩ t s l b tn) s' → ((W.setCell ⟨gq, o + 8, none⟩ u).cell? ⟨gq, o, none⟩ = some (.int .i64 t) ∧ (W.setCell ⟨gq, o + 8, none⟩ u).cell? ⟨gq, o + 1, none⟩ = some (.int .i64 s) ∧ (W.setCell ⟨gq, o + 8, none⟩ u).cell? ⟨gq, o + 2, none⟩ = some (.int .i64 l) ∧ (W.setCell ⟨gq, o + 8, none⟩ u).cell? ⟨gq, o + 3, none⟩ = some (.int .i64 b)) ∧ (W.setCell ⟨gq, o + 8, none⟩ u).cell? ⟨gq, o + 4, none⟩ = some (.int .i64 tn) ∧ (W.setCell ⟨gq, o + 8, none⟩ u).cell? ⟨gq, o + 6, none⟩ = some (.int .i64 q) ∧ (W.setCell ⟨gq, o + 8, none⟩ u).cell? ⟨gq, o + 7, none⟩ = some (.int .u64 now)) := Lib.hid (fun W s' u m => ⟨⟨(m.put 8 u).blk.cell 0, (m.put 8 u).blk.cell 1, (m.put 8 u).blk.cell 2, (m.put 8 u).blk.cell 3⟩, (m.put 8 u).blk.cell 4, (m.put 8 u).blk.cell 6, (m.put 8 u).blk.cell 7⟩)
    have c0 : w.cell? ⟨gq, o, none⟩ = some (.int .i64 t) := hb.cell 0
    have c1 : w.cell? ⟨gq, o + 1, none⟩ = some (.int .i64 s) := hb.cell 1
    have c2 : w.cell? ⟨gq, o + 2, none⟩ = some (.int .i64 l) := hb.cell 2
    have c3 : w.cell? ⟨gq, o + 3, none⟩ = some (.int .i64 b) := hb.cell 3
    have c4 : w.cell? ⟨gq, o + 4, none⟩ = some (.int .i64 tn) := hb.cell 4
    have c5 : w.cell? ⟨gq, o + 5, none⟩ = some (.int .i64 2) := hb.cell 5
    have c6 : w.cell? ⟨gq, o + 6, none⟩ = some (.int .i64 q) := hb.cell 6
    have c7 : w.cell? ⟨gq, o + 7, none⟩ = some (.int .u64 now) := hb.cell 7
    clear h hb sd hc ha har hhd hnx hv hln hh
    go_enter Tryz.func94, Tryz.ntmps94
    go_wp2_with fail
    go_quiet (fail)
    have M := Lib.hid ((M0.out.ext (ext_drewN (Ext.refl w) nq)).ext ((Ext.refl _).drew))
    obtain ⟨⟨e0, e1, e2, e3⟩, e4, e6, e7⟩ := HP.out _ _ (M0.out.ext (ext_drewN (Ext.refl w) nq))
    clear c0 c1 c2 c3 c4 c5 c6 c7 M0
    generalize w.drewN nq = w0q at *
    go_wp2_with fail
    go_region_held3 (fun W => (W.cell? ⟨gq, o, none⟩ = some (.int .i64 t) ∧ W.cell? ⟨gq, o + 1, none⟩ = some (.int .i64 s) ∧ W.cell? ⟨gq, o + 2, none⟩ = some (.int .i64 l) ∧ W.cell? ⟨gq, o + 3, none⟩ = some (.int .i64 b)) ∧ W.cell? ⟨gq, o + 4, none⟩ = some (.int .i64 tn) ∧ W.cell? ⟨gq, o + 6, none⟩ = some (.int .i64 q) ∧ W.cell? ⟨gq, o + 7, none⟩ = some (.int .u64 now)) (first | exact HP.out _ _ M.out | exact HP2.out _ _ _ M.out | go_keep) (first
      | (go_at_call 162; refine (HAn.out _).mono ?_; rintro e w1 ⟨rfl, x1⟩; replace M := Lib.hid (M.out.ext x1); clear x1)
      | (go_at_call 50; refine (HL.out _ M.out).mono ?_; rintro e w1 ⟨rfl, m1⟩; replace M := Lib.hid m1; clear m1))
    all_goals
      have y6 : w1.cell? ⟨gq, o + 6, none⟩ = some (.int .i64 q) := M.out.blk.cell 6
      have z6 : w1.frozen? ⟨gq, o + 6, none⟩ = false := M.out.blk.frozen 6
      have m2 := M.out.put 6 (.int .i64 ((k : Int) + 3))
      have y7 : (w1.setCell ⟨gq, o + 6, none⟩ (.int .i64 ((k : Int) + 3))).cell? ⟨gq, o + 7, none⟩ = some (.int .u64 now) := m2.blk.cell 7
      have y6b : (w1.setCell ⟨gq, o + 6, none⟩ (.int .i64 ((k : Int) + 3))).cell? ⟨gq, o + 6, none⟩ = some (.int .i64 ((k : Int) + 3)) := m2.blk.cell 6
      have z6b : (w1.setCell ⟨gq, o + 6, none⟩ (.int .i64 ((k : Int) + 3))).frozen? ⟨gq, o + 6, none⟩ = false := m2.blk.frozen 6
      have M2 := Lib.hid m2
      have M3 := Lib.hid (m2.put 6 (.int .i64 0))
      clear m2
      by_cases v0 : v = 0
      · have b0 : (v != 0) = false := by simp [v0]
        have hdf : hd = false := by rw [HHh.out, b0]; rfl
        have LNf : Hid ((k : Int) + 3 = ln) := Lib.hid (by rw [← HLn.out, hdf]; rfl)
        clear v0
        go_wp2_with fail
        (first | (refine bodyPost_ret (results_none rfl _ _ _) rfl ?_) | (refine bodyPost_end (results_none rfl _ _ _) rfl ?_))
        exact ⟨⟨_, rfl⟩, by rw [← LNf.out]; exact M2.out⟩
      · have b0 : (v != 0) = true := by rw [bne_iff_ne]; exact v0
        by_cases vn : v = nx
        · have b1 : (v != nx) = false := by simp [vn]
          have hdf : hd = false := by rw [HHh.out, b0, b1]; rfl
          have LNf : Hid ((k : Int) + 3 = ln) := Lib.hid (by rw [← HLn.out, hdf]; rfl)
          clear v0 vn
          go_wp2_with fail
          (first | (refine bodyPost_ret (results_none rfl _ _ _) rfl ?_) | (refine bodyPost_end (results_none rfl _ _ _) rfl ?_))
          exact ⟨⟨_, rfl⟩, by rw [← LNf.out]; exact M2.out⟩
        · have b1 : (v != nx) = true := by rw [bne_iff_ne]; exact vn
          have hdf : hd = true := by rw [HHh.out, b0, b1]; rfl
          have LNf : Hid (0 = ln) := Lib.hid (by rw [← HLn.out, hdf]; rfl)
          clear v0 vn
          go_wp2_with fail
          (first | (refine bodyPost_ret (results_none rfl _ _ _) rfl ?_) | (refine bodyPost_end (results_none rfl _ _ _) rfl ?_))
          exact ⟨⟨_, rfl⟩, by rw [← LNf.out]; exact M3.out⟩
set_option maxRecDepth 100000 in
set_option maxHeartbeats 4000000 in
theorem sm_move (h : IsRMem B w g R rv st) (sd : Sound st.dev) (hc : Calm st) (hw : W64 now) (ht : t ≤ 1000) (hb : Sub w gq T o A Z (RMa.cells ⟨2, (t : Int) + 2, now, mv⟩ t s l b tn)) (ho : ¬ rfoot g R rv gq) :
    Calls Tryz.prog 94 #[.pointer (some ⟨gq, o, none⟩), .pointer (some ⟨g, 0, none⟩)] w (RPostS B w g R rv gq T o A Z (RMa.cells ⟨2, 0, now, swapB st (-1) now⟩ t s l b tn) (st.swap tn (-1) now (next64 now))) := by
    have M0 := Lib.hid (RS.of h hb ho)
    have HL : Hid (∀ W, RS B w W g R rv gq T o A Z (RMa.cells ⟨2, (t : Int) + 2, now, mv⟩ t s l b tn) st → Calls Tryz.prog 50 #[.pointer (some ⟨g, 0, none⟩), .int .i64 3, .int .i64 tn, .int .i64 (-1), .int .u64 now, .int .u64 (next64 now)] W fun e w' => e = .returned (accV (st.swap tn (-1) now (next64 now)).last) ∧ RS B w w' g R rv gq T o A Z (RMa.cells ⟨2, (t : Int) + 2, now, mv⟩ t s l b tn) (st.swap tn (-1) now (next64 now))) := Lib.hid (fun W m => (refSwap7v m.ref sd hc tn (-1) now _ (by decide) (by decide)).mono (by rintro e w' ⟨rfl, r1, f1⟩; exact ⟨rfl, m.to r1 f1⟩))
    obtain ⟨a1, a2, a3, a4, a5, ha⟩ := swap_tells st tn (-1) now (next64 now)
    rw [ha] at HL
    have hf5 := fun W => fldA5 a1 a2 a3 a4 a5 (swapB st (-1) now) W
    have hwn : IntKind.u64.wrap (now + 1) = next64 now := by unfold next64 IntKind.wrap; simp [IntKind.signed, IntKind.bits]
    have wk : (t : Int) + 2 - 2 = (t : Int) := by omega
    have wk2 : IntKind.i64.wrap ((t : Int) + 2 - 2) = (t : Int) := by rw [wk]; exact i64w _ (by omega) (by omega)
    have wk2' : IntKind.i64.wrap (t : Int) = (t : Int) := i64w _ (by omega) (by omega)
    have k0 : ((t : Int) + 2 == 0) = false := by rw [beq_eq_false_iff_ne]; omega
    have k0' : ¬ (t : Int) + 2 = 0 := by omega
    have k1 : ((t : Int) + 2 == 1) = false := by rw [beq_eq_false_iff_ne]; omega
    have k1' : ¬ (t : Int) + 2 = 1 := by omega
    have dk : decide ((t : Int) < (t : Int)) = false := by simp
    have dk' : decide (t < t) = false := by simp
    generalize next64 now = nx at *
    generalize st.swap tn (-1) now nx = st1 at *
    generalize swapB st (-1) now = d at *
    generalize (t : Int) + 2 = q at *
    have HP : Hid (∀ W s', RS B w W g R rv gq T o A Z (RMa.cells ⟨2, q, now, mv⟩ t s l b tn) s' → (W.cell? ⟨gq, o, none⟩ = some (.int .i64 t) ∧ W.cell? ⟨gq, o + 1, none⟩ = some (.int .i64 s) ∧ W.cell? ⟨gq, o + 2, none⟩ = some (.int .i64 l) ∧ W.cell? ⟨gq, o + 3, none⟩ = some (.int .i64 b)) ∧ W.cell? ⟨gq, o + 4, none⟩ = some (.int .i64 tn) ∧ W.cell? ⟨gq, o + 6, none⟩ = some (.int .i64 q) ∧ W.cell? ⟨gq, o + 7, none⟩ = some (.int .u64 now)) := Lib.hid (fun W s' m => ⟨⟨m.blk.cell 0, m.blk.cell 1, m.blk.cell 2, m.blk.cell 3⟩, m.blk.cell 4, m.blk.cell 6, m.blk.cell 7⟩)
    have HP2 : Hid (∀ W s' u, RS B w W g R rv gq T o A Z (RMa.cells ⟨2, q, now, mv⟩ t s l b tn) s' → ((W.setCell ⟨gq, o + 8, none⟩ u).cell? ⟨gq, o, none⟩ = some (.int .i64 t) ∧ (W.setCell ⟨gq, o + 8, none⟩ u).cell? ⟨gq, o + 1, none⟩ = some (.int .i64 s) ∧ (W.setCell ⟨gq, o + 8, none⟩ u).cell? ⟨gq, o + 2, none⟩ = some (.int .i64 l) ∧ (W.setCell ⟨gq, o + 8, none⟩ u).cell? ⟨gq, o + 3, none⟩ = some (.int .i64 b)) ∧ (W.setCell ⟨gq, o + 8, none⟩ u).cell? ⟨gq, o + 4, none⟩ = some (.int .i64 tn) ∧ (W.setCell ⟨gq, o + 8, none⟩ u).cell? ⟨gq, o + 6, none⟩ = some (.int .i64 q) ∧ (W.setCell ⟨gq, o + 8, none⟩ u).cell? ⟨gq, o + 7, none⟩ = some (.int .u64 now)) := Lib.hid (fun W s' u m => ⟨⟨(m.put 8 u).blk.cell 0, (m.put 8 u).blk.cell 1, (m.put 8 u).blk.cell 2, (m.put 8 u).blk.cell 3⟩, (m.put 8 u).blk.cell 4, (m.put 8 u).blk.cell 6, (m.put 8 u).blk.cell 7⟩)
    have c0 : w.cell? ⟨gq, o, none⟩ = some (.int .i64 t) := hb.cell 0
    have c1 : w.cell? ⟨gq, o + 1, none⟩ = some (.int .i64 s) := hb.cell 1
    have c2 : w.cell? ⟨gq, o + 2, none⟩ = some (.int .i64 l) := hb.cell 2
    have c3 : w.cell? ⟨gq, o + 3, none⟩ = some (.int .i64 b) := hb.cell 3
    have c4 : w.cell? ⟨gq, o + 4, none⟩ = some (.int .i64 tn) := hb.cell 4
    have c5 : w.cell? ⟨gq, o + 5, none⟩ = some (.int .i64 2) := hb.cell 5
    have c6 : w.cell? ⟨gq, o + 6, none⟩ = some (.int .i64 q) := hb.cell 6
    have c7 : w.cell? ⟨gq, o + 7, none⟩ = some (.int .u64 now) := hb.cell 7
    clear h hb sd hc ha
    go_enter Tryz.func94, Tryz.ntmps94
    go_wp2_with fail
    go_quiet (fail)
    have M := Lib.hid ((M0.out.ext (ext_drewN (Ext.refl w) nq)).ext ((Ext.refl _).drew))
    obtain ⟨⟨e0, e1, e2, e3⟩, e4, e6, e7⟩ := HP.out _ _ (M0.out.ext (ext_drewN (Ext.refl w) nq))
    clear c0 c1 c2 c3 c4 c5 c6 c7 M0
    generalize w.drewN nq = w0q at *
    go_wp2_with fail
    go_region_held3 (fun W => (W.cell? ⟨gq, o, none⟩ = some (.int .i64 t) ∧ W.cell? ⟨gq, o + 1, none⟩ = some (.int .i64 s) ∧ W.cell? ⟨gq, o + 2, none⟩ = some (.int .i64 l) ∧ W.cell? ⟨gq, o + 3, none⟩ = some (.int .i64 b)) ∧ W.cell? ⟨gq, o + 4, none⟩ = some (.int .i64 tn) ∧ W.cell? ⟨gq, o + 6, none⟩ = some (.int .i64 q) ∧ W.cell? ⟨gq, o + 7, none⟩ = some (.int .u64 now)) (first | exact HP.out _ _ M.out | exact HP2.out _ _ _ M.out | go_keep) (first
      | (go_at_call 50; refine (HL.out _ M.out).mono ?_; rintro e w1 ⟨rfl, m1⟩; replace M := Lib.hid m1; have y8 : w1.cell? ⟨gq, o + 8, none⟩ = some (.bool mv) := M.out.blk.cell 8; have z8 : w1.frozen? ⟨gq, o + 8, none⟩ = false := M.out.blk.frozen 8; clear m1))
    all_goals
      have m2 := M.out.put 8 (.bool d)
      have y6 : (w1.setCell ⟨gq, o + 8, none⟩ (.bool d)).cell? ⟨gq, o + 6, none⟩ = some (.int .i64 q) := m2.blk.cell 6
      have z6 : (w1.setCell ⟨gq, o + 8, none⟩ (.bool d)).frozen? ⟨gq, o + 6, none⟩ = false := m2.blk.frozen 6
      have M3 := Lib.hid (m2.put 6 (.int .i64 0))
      clear m2
      go_wp2_with fail
      (first | (refine bodyPost_ret (results_none rfl _ _ _) rfl ?_) | (refine bodyPost_end (results_none rfl _ _ _) rfl ?_))
      exact ⟨⟨_, rfl⟩, M3.out⟩
end
/-- An Advance beside the document's. -/
structure RelA (T : Nat) (x : AMs) (r : RMa) : Prop where
  wf : x.Wf T
  kind : r.kind = 2
  now : r.now = x.ep
  mv : r.mv = x.mv
  ld : x.ld = false → x.asked = 0
  line : r.line = if x.dn = true then 0 else if x.ld = true then (x.asked : Int) + 2 else 1
theorem RelA.zero (T : Nat) : RelA T ⟨false, false, 0, 0, false⟩ ⟨2, 1, 0, false⟩ := ⟨⟨⟨Int.le_refl 0, by show (0 : Int) < _; decide⟩, Nat.zero_le _⟩, rfl, rfl, rfl, fun _ => rfl, rfl⟩
theorem RelA.lineB {T : Nat} {x : AMs} {r : RMa} (h : RelA T x r) : (r.line == 0) = x.dn := by
  have hl := h.line
  obtain ⟨d, ld, ep, asked, mv⟩ := x
  simp only at hl
  rw [hl]
  cases d <;> cases ld
  · rfl
  · show ((asked : Int) + 2 == 0) = false
    rw [beq_eq_false_iff_ne]
    omega
  · rfl
  · rfl
section
variable {B : Nat} {w : World} {g : Nat} {R : RefB} {rv : Value} {gq : Nat} {T : TypeId} {o : Nat} {A Z : List Value} {st : MSt} {t s l b : Nat} {tn : Int} {x : AMs} {r : RMa}
theorem sadv_ok (hr : RelA t x r) (h : IsRMem B w g R rv st) (sd : Sound st.dev) (hc : Calm st) (c : CfgN t s l b) (ht : t ≤ 1000) (ok : Okay (layF t s l b)) (hb : Sub w gq T o A Z (r.cells t s l b tn)) (ho : ¬ rfoot g R rv gq) (hU : ∀ a, W64 (peekV st a)) :
    ∃ r', RelA t (advS (layF t s l b) t tn x st).1 r' ∧ Calls Tryz.prog 94 #[.pointer (some ⟨gq, o, none⟩), .pointer (some ⟨g, 0, none⟩)] w (RPostS B w g R rv gq T o A Z (r'.cells t s l b tn) (advS (layF t s l b) t tn x st).2) := by
  obtain ⟨kind, line, now, mv⟩ := r
  obtain ⟨dn, ld, ep, asked, mx⟩ := x
  obtain ⟨h1, h2, h3, h4, h6, h5⟩ := hr
  simp only at h2 h3 h4 h5 h6
  subst h2 h3 h4 h5
  cases dn
  · cases ld
    · have ha : asked = 0 := h6 rfl
      subst ha
      have e1 : advS (layF t s l b) t tn ⟨false, false, now, 0, mv⟩ st = (⟨false, true, peekV st (-1), 0, mv⟩, st.load tn (-1)) := rfl
      rw [e1]
      exact ⟨⟨2, 2, peekV st (-1), mv⟩, ⟨⟨hU (-1), h1.asked⟩, rfl, rfl, rfl, fun e => by simp at e, rfl⟩, sm_load h sd hc (Or.inr rfl) hb ho⟩
    · by_cases hlt : asked < t
      · have e1 : advS (layF t s l b) t tn ⟨false, true, now, asked, mv⟩ st = (⟨holds now (peekV st (ann (layF t s l b) asked)), true, now, asked + 1, mv⟩, st.load tn (ann (layF t s l b) asked)) := by
          unfold advS
          rw [if_neg (by simp), if_neg (by simp), if_pos hlt]
        rw [e1]
        refine ⟨⟨2, if holds now (peekV st (ann (layF t s l b) asked)) = true then 0 else (asked : Int) + 3, now, mv⟩, ⟨⟨h1.ep, hlt⟩, rfl, rfl, rfl, fun e => by simp at e, ?_⟩, sm_ask h sd hc c ok h1.ep hlt ht hb ho⟩
        show (if holds now (peekV st (ann (layF t s l b) asked)) = true then (0 : Int) else (asked : Int) + 3) = if holds now (peekV st (ann (layF t s l b) asked)) = true then 0 else ((asked + 1 : Nat) : Int) + 2
        split
        · rfl
        · omega
      · have ea : asked = t := by have := h1.asked; simp only at this; omega
        subst ea
        have e1 : advS (layF asked s l b) asked tn ⟨false, true, now, asked, mv⟩ st = (⟨true, true, now, asked, swapB st (-1) now⟩, st.swap tn (-1) now (next64 now)) := by
          unfold advS
          rw [if_neg (by simp), if_neg (by simp), if_neg hlt]
        rw [e1]
        exact ⟨⟨2, 0, now, swapB st (-1) now⟩, ⟨⟨h1.ep, h1.asked⟩, rfl, rfl, rfl, fun e => by simp at e, rfl⟩, sm_move h sd hc h1.ep ht hb ho⟩
  · have e1 : advS (layF t s l b) t tn ⟨true, ld, now, asked, mv⟩ st = (⟨true, ld, now, asked, mv⟩, st) := rfl
    rw [e1]
    exact ⟨⟨2, 0, now, mv⟩, ⟨h1, rfl, rfl, rfl, h6, rfl⟩, sm_done h hb ho⟩
end
end Go.Proofs.YtbicloceaddinaaGreat

