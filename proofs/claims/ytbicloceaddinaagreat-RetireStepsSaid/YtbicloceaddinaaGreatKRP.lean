/- The document's Push, each step. Conditions: those that each theorem names. -/
import Derived.Test.YtbicloceaddinaaGreatRPop
import Derived.Test.YtbicloceaddinaaGreatKPk
namespace Go.Proofs.YtbicloceaddinaaGreat
open Go.ChangeShapes Go.WideShapes Go.ChangeAt Go.RowKit
set_option linter.unusedVariables false
/-- The document's machine: its line, the top that was loaded, its slot. -/
structure RPu where
  line : Int
  top : Int
  slot : Int
def RPu.cells (r : RPu) (t s l b tn : Int) : List Value := [.int .i64 t, .int .i64 s, .int .i64 l, .int .i64 b, .int .i64 tn, .int .i64 r.line, .int .u64 r.top, .int .i64 r.slot]
structure RPu.Wf (r : RPu) : Prop where
  line : r.line = 0 ∨ r.line = 1 ∨ r.line = 2 ∨ r.line = 3
  top : W64 r.top
  slot : I64 r.slot
def rpushS (F : Nat → Int) (tn : Int) (r : RPu) (st : MSt) : RPu × MSt :=
  if r.line = 1 then (⟨2, peekV st (-2), r.slot⟩, st.load tn (-2))
  else if r.line = 2 then (⟨3, r.top, r.slot⟩, st.store tn (aft F r.slot) (toN r.top + 1))
  else if r.line = 3 then (⟨if swapB st (-2) r.top = true then 0 else 1, r.top, r.slot⟩, st.swap tn (-2) r.top (topN r.slot (ver1 r.top)))
  else (r, st)
section
variable {B : Nat} {w : World} {g : Nat} {R : RefB} {rv : Value} {gq : Nat} {st : MSt} {t s l b : Nat} {tn : Int} {r : RPu}
end
/-- A Push beside the document's. -/
structure RelU (x : PMs) (r : RPu) : Prop where
  xw : x.Wf
  rw : r.Wf
  line : r.line = if x.dn = true then 0 else x.part + 1
  top : r.top = x.top
  slot : r.slot = x.y
theorem RelU.step {F : Nat → Int} {t : Int} {x : PMs} {r : RPu} {s : MSt} (h : RelU x r) (hU : ∀ a, W64 (peekV s a)) : (rpushS F t r s).2 = (pushS F t x s).2 ∧ RelU (pushS F t x s).1 (rpushS F t r s).1 := by
  obtain ⟨part, top, y, dn⟩ := x
  obtain ⟨line, rtop, slot⟩ := r
  obtain ⟨hx, hr, hl, ht, hs⟩ := h
  simp only at hl ht hs
  subst ht hs
  cases dn
  · have hl' : line = part + 1 := by simpa using hl
    subst hl'
    rcases hx.part with e | e | e
    · have e' : part = 0 := e
      subst e'
      have e1 : pushS F t ⟨0, rtop, slot, false⟩ s = (⟨1, peekV s (-2), slot, false⟩, s.load t (-2)) := rfl
      have e2 : rpushS F t ⟨0 + 1, rtop, slot⟩ s = (⟨2, peekV s (-2), slot⟩, s.load t (-2)) := rfl
      rw [e1, e2]
      exact ⟨rfl, ⟨Or.inr (Or.inl rfl), hU (-2), hx.y⟩, ⟨Or.inr (Or.inr (Or.inl rfl)), hU (-2), hr.slot⟩, rfl, rfl, rfl⟩
    · have e' : part = 1 := e
      subst e'
      have e1 : pushS F t ⟨1, rtop, slot, false⟩ s = (⟨2, rtop, slot, false⟩, s.store t (aft F slot) (toN rtop + 1)) := rfl
      have e2 : rpushS F t ⟨1 + 1, rtop, slot⟩ s = (⟨3, rtop, slot⟩, s.store t (aft F slot) (toN rtop + 1)) := rfl
      rw [e1, e2]
      exact ⟨rfl, ⟨Or.inr (Or.inr rfl), hx.top, hx.y⟩, ⟨Or.inr (Or.inr (Or.inr rfl)), hr.top, hr.slot⟩, rfl, rfl, rfl⟩
    · have e' : part = 2 := e
      subst e'
      have e1 : pushS F t ⟨2, rtop, slot, false⟩ s = (⟨0, rtop, slot, swapB s (-2) rtop⟩, s.swap t (-2) rtop (topN slot (ver1 rtop))) := rfl
      have e2 : rpushS F t ⟨2 + 1, rtop, slot⟩ s = (⟨if swapB s (-2) rtop = true then 0 else 1, rtop, slot⟩, s.swap t (-2) rtop (topN slot (ver1 rtop))) := rfl
      rw [e1, e2]
      refine ⟨rfl, ?_⟩
      cases swapB s (-2) rtop
      · exact ⟨⟨Or.inl rfl, hx.top, hx.y⟩, ⟨Or.inr (Or.inl rfl), hr.top, hr.slot⟩, rfl, rfl, rfl⟩
      · exact ⟨⟨Or.inl rfl, hx.top, hx.y⟩, ⟨Or.inl rfl, hr.top, hr.slot⟩, rfl, rfl, rfl⟩
  · have hl' : line = 0 := by simpa using hl
    subst hl'
    have e1 : pushS F t ⟨part, rtop, slot, true⟩ s = (⟨part, rtop, slot, true⟩, s) := rfl
    have e2 : rpushS F t ⟨0, rtop, slot⟩ s = (⟨0, rtop, slot⟩, s) := rfl
    rw [e1, e2]
    exact ⟨rfl, hx, hr, hl, rfl, rfl⟩
theorem RelU.zero {y : Int} (h : I64 y) : RelU ⟨0, 0, y, false⟩ ⟨1, 0, y⟩ := ⟨⟨Or.inl rfl, ⟨Int.le_refl 0, by show (0 : Int) < _; decide⟩, h⟩, ⟨Or.inr (Or.inl rfl), ⟨Int.le_refl 0, by show (0 : Int) < _; decide⟩, h⟩, rfl, rfl, rfl⟩
theorem RelU.lineB {x : PMs} {r : RPu} (h : RelU x r) : (r.line == 0) = x.dn := by
  have hl := h.line
  have hp := h.xw.part
  cases hd : x.dn
  · rw [hd, if_neg (by decide)] at hl
    rw [hl]
    rw [beq_eq_false_iff_ne]
    omega
  · rw [hd, if_pos rfl] at hl
    rw [hl]
    rfl
end Go.Proofs.YtbicloceaddinaaGreat


/- The document's machines inside others: cells that stand in a block from a place on; Pop and Push there, each step. Conditions: those that each theorem names. -/
namespace Go.Proofs.YtbicloceaddinaaGreat
open Go.ChangeShapes Go.WideShapes Go.ChangeAt Go.RowKit
set_option linter.unusedVariables false
/-- Cells that stand in a block, from a place on. -/
structure Sub (w : World) (g : Nat) (T : TypeId) (o : Nat) (A Z : List Value) (cs : List Value) : Prop where
  blk : Blk w g T (A ++ (cs ++ Z))
  len : A.length = o
section
variable {w w' : World} {g : Nat} {T : TypeId} {o : Nat} {A Z cs : List Value}
theorem Sub.cell (h : Sub w g T o A Z cs) (i : Nat) {v : Value} (hv : cs[i]? = some v := by rfl) : w.cell? ⟨g, o + i, none⟩ = some v := by
  have hi : i < cs.length := (List.getElem?_eq_some_iff.1 hv).1
  rw [h.blk.cell, ← h.len, List.getElem?_append_right (by omega), Nat.add_sub_cancel_left, List.getElem?_append_left hi]
  exact hv
theorem Sub.frozen (h : Sub w g T o A Z cs) (i : Nat) : w.frozen? ⟨g, o + i, none⟩ = false := h.blk.frozen _
theorem Sub.ext (h : Sub w g T o A Z cs) (x : Ext w w') : Sub w' g T o A Z cs := ⟨h.blk.ext x, h.len⟩
theorem Sub.fr {S : Nat → Prop} (h : Sub w g T o A Z cs) (x : Fr S w w') (hS : ¬ S g) : Sub w' g T o A Z cs := ⟨h.blk.fr x hS, h.len⟩
theorem Sub.set (h : Sub w g T o A Z cs) (i : Nat) (hi : i < cs.length) (u : Value) : Sub (w.setCell ⟨g, o + i, none⟩ u) g T o A Z (cs.set i u) := by
  refine ⟨?_, h.len⟩
  have h2 := h.blk.set (o + i) u
  rw [← h.len, List.set_append_right _ _ (by omega), Nat.add_sub_cancel_left, List.set_append_left _ _ hi] at h2
  rw [← h.len]
  exact h2
theorem Sub.at0 {g : Nat} (h : Blk w g T cs) : Sub w g T 0 [] [] cs := ⟨by simpa using h, rfl⟩
theorem Sub.blk0 {g : Nat} (h : Sub w g T 0 [] [] cs) : Blk w g T cs := by simpa using h.blk
end
/-- The document's memory, and a block beside it that has a machine of the document in it. -/
structure RS (B : Nat) (w0 w : World) (g : Nat) (R : RefB) (rv : Value) (gq : Nat) (T : TypeId) (o : Nat) (A Z cs : List Value) (st : MSt) : Prop where
  ref : IsRMem B w g R rv st
  blk : Sub w gq T o A Z cs
  fr : Fr (fun b => rfoot g R rv b ∨ b = gq) w0 w
  off : ¬ rfoot g R rv gq
section
variable {B : Nat} {w0 w w' : World} {g : Nat} {R : RefB} {rv : Value} {gq : Nat} {T : TypeId} {o : Nat} {A Z cs : List Value} {st st' : MSt}
theorem RS.of (h : IsRMem B w g R rv st) (hb : Sub w gq T o A Z cs) (ho : ¬ rfoot g R rv gq) : RS B w w g R rv gq T o A Z cs st := ⟨h, hb, Fr.refl _ _, ho⟩
theorem RS.ext (h : RS B w0 w g R rv gq T o A Z cs st) (x : Ext w w') : RS B w0 w' g R rv gq T o A Z cs st := ⟨h.ref.ext x, h.blk.ext x, h.fr.then_ext x, h.off⟩
theorem RS.to (h : RS B w0 w g R rv gq T o A Z cs st) (r : IsRMem B w' g R rv st') (f : Fr (rfoot g R rv) w w') : RS B w0 w' g R rv gq T o A Z cs st' :=
  ⟨r, h.blk.fr f h.off, h.fr.trans f (fun b _ hb => Or.inl hb), h.off⟩
theorem RS.put (h : RS B w0 w g R rv gq T o A Z cs st) (i : Nat) (v : Value) (hi : Nat.blt i cs.length = true := by rfl) : RS B w0 (w.setCell ⟨gq, o + i, none⟩ v) g R rv gq T o A Z (cs.set i v) st := by
  have f : Fr (fun b => b = gq) w (w.setCell ⟨gq, o + i, none⟩ v) := Fr.setCell (S := fun b => b = gq) (p := ⟨gq, o + i, none⟩) (Fr.refl _ w) (Or.inl rfl) _
  exact ⟨h.ref.fr f (fun b hb hs => h.off (hs ▸ hb)), h.blk.set i (by have h2 : Nat.ble (i + 1) cs.length = true := hi; exact Nat.le_of_ble_eq_true h2) v, h.fr.trans f (fun b _ hb => Or.inr hb), h.off⟩
end
def RPostS (B : Nat) (w : World) (g : Nat) (R : RefB) (rv : Value) (gq : Nat) (T : TypeId) (o : Nat) (A Z cs : List Value) (st : MSt) (e : Ending) (w' : World) : Prop := (∃ u, e = .returned u) ∧ RS B w w' g R rv gq T o A Z cs st
section
variable {B : Nat} {w : World} {g : Nat} {R : RefB} {rv : Value} {gq : Nat} {T : TypeId} {o : Nat} {A Z : List Value} {st : MSt} {t s l b : Nat} {tn : Int} {r : RPo}
end
section
variable {B : Nat} {w : World} {g : Nat} {R : RefB} {rv : Value} {gq : Nat} {T : TypeId} {o : Nat} {A Z : List Value} {st : MSt} {t s l b : Nat} {tn : Int} {r : RPu}
set_option maxRecDepth 100000 in
set_option maxHeartbeats 8000000 in
theorem spush_ok (h : IsRMem B w g R rv st) (sd : Sound st.dev) (hc : Calm st) (c : CfgN t s l b) (ok : Okay (layF t s l b)) (hb : Sub w gq T o A Z (r.cells t s l b tn)) (ho : ¬ rfoot g R rv gq) (hr : r.Wf) (hU : ∀ a, W64 (peekV st a)) :
    Calls Tryz.prog 140 #[.pointer (some ⟨gq, o, none⟩), .pointer (some ⟨g, 0, none⟩)] w (RPostS B w g R rv gq T o A Z ((rpushS (layF t s l b) tn r st).1.cells t s l b tn) (rpushS (layF t s l b) tn r st).2) := by
  obtain ⟨line, top, slot⟩ := r
  obtain ⟨hl, ht, hn⟩ := hr
  simp only at hl ht hn
  have M0 := Lib.hid (RS.of h hb ho)
  have HAf := Lib.hid (fun W n => rafter_ok (t := t) (s := s) (l := l) (b := b) c n W)
  rcases hl with rfl | rfl | rfl | rfl
  · have e : rpushS (layF t s l b) tn ⟨0, top, slot⟩ st = (⟨0, top, slot⟩, st) := rfl
    rw [e]
    have c5 : w.cell? ⟨gq, o + 5, none⟩ = some (.int .i64 0) := hb.cell 5
    clear h hb sd hc hU
    go_enter Tryz.func140, Tryz.ntmps140
    go_wp2_with fail
    (first | (refine bodyPost_ret (results_none rfl _ _ _) rfl ?_) | (refine bodyPost_end (results_none rfl _ _ _) rfl ?_))
    exact ⟨⟨_, rfl⟩, M0.out⟩
  · have e : rpushS (layF t s l b) tn ⟨1, top, slot⟩ st = (⟨2, peekV st (-2), slot⟩, st.load tn (-2)) := rfl
    rw [e]
    have HL := Lib.hid (refLoad7v h sd hc tn (-2) 0 0 (by decide) (by decide))
    obtain ⟨a1, a2, a3, a4, a5, ha⟩ := load_tells st tn (-2)
    rw [ha] at HL
    have hf3 := fun W => fldA3 a1 a2 a3 (peekV st (-2)) a4 a5 W
    generalize peekV st (-2) = v at *
    generalize st.load tn (-2) = st1 at *
    have c5 : w.cell? ⟨gq, o + 5, none⟩ = some (.int .i64 1) := hb.cell 5
    have c4 : w.cell? ⟨gq, o + 4, none⟩ = some (.int .i64 tn) := hb.cell 4
    clear h hb sd hc hU ha e
    go_enter Tryz.func140, Tryz.ntmps140
    go_wp2_with fail
    refine HL.out.mono ?_
    rintro e w1 ⟨rfl, r1, f1⟩
    have m1 := M0.out.to r1 f1
    have c6 : w1.cell? ⟨gq, o + 6, none⟩ = some (.int .u64 top) := m1.blk.cell 6
    have z6 : w1.frozen? ⟨gq, o + 6, none⟩ = false := m1.blk.frozen 6
    have m2 := m1.put 6 (.int .u64 v)
    have c5b : (w1.setCell ⟨gq, o + 6, none⟩ (.int .u64 v)).cell? ⟨gq, o + 5, none⟩ = some (.int .i64 1) := m2.blk.cell 5
    have z5b : (w1.setCell ⟨gq, o + 6, none⟩ (.int .u64 v)).frozen? ⟨gq, o + 5, none⟩ = false := m2.blk.frozen 5
    have M3 := Lib.hid (m2.put 5 (.int .i64 2))
    clear r1 f1 m1 m2 M0
    go_wp2_with fail
    (first | (refine bodyPost_ret (results_none rfl _ _ _) rfl ?_) | (refine bodyPost_end (results_none rfl _ _ _) rfl ?_))
    exact ⟨⟨_, rfl⟩, M3.out⟩
  · have e : rpushS (layF t s l b) tn ⟨2, top, slot⟩ st = (⟨3, top, slot⟩, st.store tn (aft (layF t s l b) slot) (toN top + 1)) := rfl
    rw [e]
    have har := aft_rng ok slot
    have htr := toN_rng ht
    have HL : Hid (∀ W, RS B w W g R rv gq T o A Z (RPu.cells ⟨2, top, slot⟩ t s l b tn) st → Calls Tryz.prog 50 #[.pointer (some ⟨g, 0, none⟩), .int .i64 2, .int .i64 tn, .int .i64 (aft (layF t s l b) slot), .int .u64 0, .int .u64 (toN top + 1)] W fun e w' => (∃ u, e = .returned u) ∧ RS B w w' g R rv gq T o A Z (RPu.cells ⟨2, top, slot⟩ t s l b tn) (st.store tn (aft (layF t s l b) slot) (toN top + 1))) := Lib.hid (fun W m => (refStore7v m.ref sd hc tn _ 0 (toN top + 1) har.1 har.2).mono (by rintro e w' ⟨rfl, r1, f1⟩; exact ⟨⟨_, rfl⟩, m.to r1 f1⟩))
    have HAf1 := Lib.hid (fun W => HAf.out W slot)
    have hmod : top.tmod 4294967296 = toN top + 1 := by
      rw [Int.tmod_eq_emod_of_nonneg ht.1]
      unfold toN
      omega
    have hmod2 : top % 4294967296 = toN top + 1 := by unfold toN; omega
    have wmod : IntKind.u64.wrap (toN top + 1) = toN top + 1 := u64w _ (by omega) (by omega)
    generalize st.store tn (aft (layF t s l b) slot) (toN top + 1) = st1 at *
    generalize aft (layF t s l b) slot = a at *
    generalize toN top + 1 = f at *
    have HP : Hid (∀ W s', RS B w W g R rv gq T o A Z (RPu.cells ⟨2, top, slot⟩ t s l b tn) s' → (W.cell? ⟨gq, o, none⟩ = some (.int .i64 t) ∧ W.cell? ⟨gq, o + 1, none⟩ = some (.int .i64 s) ∧ W.cell? ⟨gq, o + 2, none⟩ = some (.int .i64 l) ∧ W.cell? ⟨gq, o + 3, none⟩ = some (.int .i64 b)) ∧ W.cell? ⟨gq, o + 4, none⟩ = some (.int .i64 tn) ∧ W.cell? ⟨gq, o + 6, none⟩ = some (.int .u64 top) ∧ W.cell? ⟨gq, o + 7, none⟩ = some (.int .i64 slot)) := Lib.hid (fun W s' m => ⟨⟨m.blk.cell 0, m.blk.cell 1, m.blk.cell 2, m.blk.cell 3⟩, m.blk.cell 4, m.blk.cell 6, m.blk.cell 7⟩)
    have M := Lib.hid (M0.out.ext ((Ext.refl w).drew))
    have c5 : w.cell? ⟨gq, o + 5, none⟩ = some (.int .i64 2) := hb.cell 5
    have c0 : w.cell? ⟨gq, o, none⟩ = some (.int .i64 t) := hb.cell 0
    have c1 : w.cell? ⟨gq, o + 1, none⟩ = some (.int .i64 s) := hb.cell 1
    have c2 : w.cell? ⟨gq, o + 2, none⟩ = some (.int .i64 l) := hb.cell 2
    have c3 : w.cell? ⟨gq, o + 3, none⟩ = some (.int .i64 b) := hb.cell 3
    have c4 : w.cell? ⟨gq, o + 4, none⟩ = some (.int .i64 tn) := hb.cell 4
    have c6 : w.cell? ⟨gq, o + 6, none⟩ = some (.int .u64 top) := hb.cell 6
    have c7 : w.cell? ⟨gq, o + 7, none⟩ = some (.int .i64 slot) := hb.cell 7
    clear h hb sd hc hU e har htr M0 HAf
    go_enter Tryz.func140, Tryz.ntmps140
    go_wp2_with fail
    go_region_held3 (fun W => (W.cell? ⟨gq, o, none⟩ = some (.int .i64 t) ∧ W.cell? ⟨gq, o + 1, none⟩ = some (.int .i64 s) ∧ W.cell? ⟨gq, o + 2, none⟩ = some (.int .i64 l) ∧ W.cell? ⟨gq, o + 3, none⟩ = some (.int .i64 b)) ∧ W.cell? ⟨gq, o + 4, none⟩ = some (.int .i64 tn) ∧ W.cell? ⟨gq, o + 6, none⟩ = some (.int .u64 top) ∧ W.cell? ⟨gq, o + 7, none⟩ = some (.int .i64 slot)) (first | exact HP.out _ _ M.out | go_keep) (first
      | (go_at_call 190; refine (HAf1.out _).mono ?_; rintro e w1 ⟨rfl, x1⟩; replace M := Lib.hid (M.out.ext x1); clear x1)
      | (go_at_call 50; refine (HL.out _ M.out).mono ?_; rintro e w1 ⟨⟨u, rfl⟩, m1⟩; replace M := Lib.hid m1; clear m1))
    all_goals
      have y5 : w1.cell? ⟨gq, o + 5, none⟩ = some (.int .i64 2) := M.out.blk.cell 5
      have z5 : w1.frozen? ⟨gq, o + 5, none⟩ = false := M.out.blk.frozen 5
      have M2 := Lib.hid (M.out.put 5 (.int .i64 3))
      go_wp2_with fail
      (first | (refine bodyPost_ret (results_none rfl _ _ _) rfl ?_) | (refine bodyPost_end (results_none rfl _ _ _) rfl ?_))
      exact ⟨⟨_, rfl⟩, M2.out⟩
  · have e : rpushS (layF t s l b) tn ⟨3, top, slot⟩ st = (⟨if swapB st (-2) top = true then 0 else 1, top, slot⟩, st.swap tn (-2) top (topN slot (ver1 top))) := rfl
    rw [e]
    have hv1 := ver1_rng top
    have HSw : Hid (∀ W cs, RS B w W g R rv gq T o A Z cs st → Calls Tryz.prog 50 #[.pointer (some ⟨g, 0, none⟩), .int .i64 3, .int .i64 tn, .int .i64 (-2), .int .u64 top, .int .u64 (topN slot (ver1 top))] W fun e w' => e = .returned (accV (st.swap tn (-2) top (topN slot (ver1 top))).last) ∧ RS B w w' g R rv gq T o A Z cs (st.swap tn (-2) top (topN slot (ver1 top)))) := Lib.hid (fun W cs m => (refSwap7v m.ref sd hc tn (-2) top _ (by decide) (by decide)).mono (by rintro e w' ⟨rfl, r1, f1⟩; exact ⟨rfl, m.to r1 f1⟩))
    obtain ⟨a1, a2, a3, a4, a5, ha⟩ := swap_tells st tn (-2) top (topN slot (ver1 top))
    rw [ha] at HSw
    have hf5 := fun W => fldA5 a1 a2 a3 a4 a5 (swapB st (-2) top) W
    have HVe : Hid (∀ W, Calls Tryz.prog 192 #[.int .u64 top] W fun e w' => e = .returned (.int .u32 (verN top)) ∧ Ext W w') := Lib.hid (fun W => rver_any top ht.1 ht.2 W)
    have HTp : Hid (∀ W, Calls Tryz.prog 191 #[.int .i64 slot, .int .u32 (ver1 top)] W fun e w' => e = .returned (.int .u64 (topN slot (ver1 top))) ∧ Ext W w') := Lib.hid (fun W => rtop_any slot (ver1 top) hn.1 hn.2 hv1.1 hv1.2 W)
    have hvr := verN_rng ht
    have hwr : IntKind.u32.wrap (verN top + 1) = ver1 top := by unfold ver1; exact u32w (verN top + 1) (by omega) (by omega)
    generalize topN slot (ver1 top) = z at *
    generalize st.swap tn (-2) top z = st1 at *
    generalize swapB st (-2) top = d at *
    obtain ⟨ln, hln⟩ : ∃ ln : Int, (if d = true then (0 : Int) else 1) = ln := ⟨_, rfl⟩
    rw [hln]
    have HLn := Lib.hid hln
    clear hln
    generalize ver1 top = v1 at *
    generalize verN top = v0 at *
    have M1 : Hid (RS B w (w.setCell ⟨gq, o + 5, none⟩ (.int .i64 1)) g R rv gq T o A Z (RPu.cells ⟨1, top, slot⟩ t s l b tn) st) := Lib.hid (M0.out.put 5 (.int .i64 1))
    have HP : Hid (∀ W s', RS B w W g R rv gq T o A Z (RPu.cells ⟨1, top, slot⟩ t s l b tn) s' → W.cell? ⟨gq, o + 4, none⟩ = some (.int .i64 tn) ∧ W.cell? ⟨gq, o + 6, none⟩ = some (.int .u64 top) ∧ W.cell? ⟨gq, o + 7, none⟩ = some (.int .i64 slot)) := Lib.hid (fun W s' m => ⟨m.blk.cell 4, m.blk.cell 6, m.blk.cell 7⟩)
    have c5 : w.cell? ⟨gq, o + 5, none⟩ = some (.int .i64 3) := hb.cell 5
    have z5 : w.frozen? ⟨gq, o + 5, none⟩ = false := hb.frozen 5
    clear h hb sd hc hU ha e M0 HAf hv1 hvr
    go_enter Tryz.func140, Tryz.ntmps140
    go_upto_region 8 with fail
    generalize w.setCell ⟨gq, o + 5, none⟩ (.int .i64 1) = w2 at *
    clear c5 z5
    have M := Lib.hid (M1.out.ext ((Ext.refl w2).drew))
    have c4 : w2.cell? ⟨gq, o + 4, none⟩ = some (.int .i64 tn) := M1.out.blk.cell 4
    have c6 : w2.cell? ⟨gq, o + 6, none⟩ = some (.int .u64 top) := M1.out.blk.cell 6
    have c7 : w2.cell? ⟨gq, o + 7, none⟩ = some (.int .i64 slot) := M1.out.blk.cell 7
    clear M1
    go_wp2_with fail
    go_region_held3 (fun W => W.cell? ⟨gq, o + 4, none⟩ = some (.int .i64 tn) ∧ W.cell? ⟨gq, o + 6, none⟩ = some (.int .u64 top) ∧ W.cell? ⟨gq, o + 7, none⟩ = some (.int .i64 slot)) (first | exact HP.out _ _ M.out | go_keep) (first
      | (go_at_call 192; refine (HVe.out _).mono ?_; rintro e w1 ⟨rfl, x1⟩; replace M := Lib.hid (M.out.ext x1); clear x1)
      | (go_at_call 191; refine (HTp.out _).mono ?_; rintro e w1 ⟨rfl, x1⟩; replace M := Lib.hid (M.out.ext x1); clear x1)
      | (go_at_call 50; refine (HSw.out _ _ M.out).mono ?_; rintro e w1 ⟨rfl, m1⟩; replace M := Lib.hid m1; clear m1))
    all_goals
      have k5 : w1.cell? ⟨gq, o + 5, none⟩ = some (.int .i64 1) := M.out.blk.cell 5
      have z5 : w1.frozen? ⟨gq, o + 5, none⟩ = false := M.out.blk.frozen 5
      have M5 := Lib.hid (M.out.put 5 (.int .i64 0))
      cases d
      · go_wp2_with fail
        (first | (refine bodyPost_ret (results_none rfl _ _ _) rfl ?_) | (refine bodyPost_end (results_none rfl _ _ _) rfl ?_))
        exact ⟨⟨_, rfl⟩, by rw [← HLn.out]; exact M.out⟩
      · go_wp2_with fail
        (first | (refine bodyPost_ret (results_none rfl _ _ _) rfl ?_) | (refine bodyPost_end (results_none rfl _ _ _) rfl ?_))
        exact ⟨⟨_, rfl⟩, by rw [← HLn.out]; exact M5.out⟩
end
end Go.Proofs.YtbicloceaddinaaGreat

