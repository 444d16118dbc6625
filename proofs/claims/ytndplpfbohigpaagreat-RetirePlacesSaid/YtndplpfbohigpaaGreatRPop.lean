/- The document's Pop and Push, each step. Conditions: those that each theorem names. -/
import Derived.Test.YtndplpfbohigpaaGreatKFreeB
import Derived.Test.YtndplpfbohigpaaGreatKMemC
import Derived.Deep.RegionHeld3
import Derived.Deep.DeepCutAuto
namespace Go.Proofs.YtndplpfbohigpaaGreat
open Go.ChangeShapes Go.WideShapes Go.ChangeAt Go.RowKit
set_option linter.unusedVariables false
/-- The document's memory, and a block beside it that a machine of the document has. -/
structure RG (B : Nat) (w0 w : World) (g : Nat) (R : RefB) (rv : Value) (gq : Nat) (T : TypeId) (cs : List Value) (st : MSt) : Prop where
  ref : IsRMem B w g R rv st
  blk : Blk w gq T cs
  fr : Fr (fun b => rfoot g R rv b ∨ b = gq) w0 w
  off : ¬ rfoot g R rv gq
section
variable {B : Nat} {w0 w w' : World} {g : Nat} {R : RefB} {rv : Value} {gq : Nat} {T : TypeId} {cs : List Value} {st st' : MSt}
theorem RG.of (h : IsRMem B w g R rv st) (hb : Blk w gq T cs) (ho : ¬ rfoot g R rv gq) : RG B w w g R rv gq T cs st := ⟨h, hb, Fr.refl _ _, ho⟩
theorem RG.ext (h : RG B w0 w g R rv gq T cs st) (x : Ext w w') : RG B w0 w' g R rv gq T cs st := ⟨h.ref.ext x, h.blk.ext x, h.fr.then_ext x, h.off⟩
theorem RG.to (h : RG B w0 w g R rv gq T cs st) (r : IsRMem B w' g R rv st') (f : Fr (rfoot g R rv) w w') : RG B w0 w' g R rv gq T cs st' :=
  ⟨r, h.blk.fr f h.off, h.fr.trans f (fun b _ hb => Or.inl hb), h.off⟩
theorem RG.put (h : RG B w0 w g R rv gq T cs st) (i : Nat) (v : Value) : RG B w0 (w.setCell ⟨gq, i, none⟩ v) g R rv gq T (cs.set i v) st := by
  have f : Fr (fun b => b = gq) w (w.setCell ⟨gq, i, none⟩ v) := Fr.setCell (S := fun b => b = gq) (p := ⟨gq, i, none⟩) (Fr.refl _ w) (Or.inl rfl) _
  exact ⟨h.ref.fr f (fun b hb hs => h.off (hs ▸ hb)), h.blk.set i v, h.fr.trans f (fun b _ hb => Or.inr hb), h.off⟩
/-- What an access tells. -/
theorem load_tells (s : MSt) (t a : Int) : ∃ (k t' a' n : Int) (d : Bool), accV (s.load t a).last = .agg #[.int .i64 k, .int .i64 t', .int .i64 a', .int .u64 (peekV s a), .int .u64 n, .bool d] := by
  unfold MSt.load
  by_cases hp : peekB s a = true
  · rw [if_pos hp]
    exact ⟨1, t, a, 0, true, rfl⟩
  · rw [if_neg hp]
    have h0 : peekV s a = 0 := peekV_no (by simpa using hp)
    rw [h0]
    exact ⟨1, t, a, 0, false, rfl⟩
theorem swap_tells (s : MSt) (t a o x : Int) : ∃ (k t' a' y n : Int), accV (s.swap t a o x).last = .agg #[.int .i64 k, .int .i64 t', .int .i64 a', .int .u64 y, .int .u64 n, .bool (swapB s a o)] := by
  unfold MSt.swap swapB
  by_cases hp : peekB s a = true
  · rw [if_pos hp, hp]
    by_cases e : peekV s a = o
    · rw [if_pos e]
      exact ⟨3, t, a, peekV s a, x, by simp [accV, MSt.note, e]⟩
    · rw [if_neg e]
      exact ⟨3, t, a, peekV s a, x, by simp [accV, MSt.note, e]⟩
  · have hq : peekB s a = false := by simpa using hp
    rw [if_neg hp, hq]
    exact ⟨3, t, a, 0, x, rfl⟩
end
/-- The document's machine: its line, the top and the word behind it that were loaded, its slot. -/
structure RPo where
  line : Int
  top : Int
  nx : Int
  slot : Int
def RPo.cells (r : RPo) (t s l b tn : Int) : List Value := [.int .i64 t, .int .i64 s, .int .i64 l, .int .i64 b, .int .i64 tn, .int .i64 r.line, .int .u64 r.top, .int .u64 r.nx, .int .i64 r.slot]
structure RPo.Wf (r : RPo) : Prop where
  line : r.line = 0 ∨ r.line = 1 ∨ r.line = 2 ∨ r.line = 3
  top : W64 r.top
  nx : W64 r.nx
def rpopS (F : Nat → Int) (tn : Int) (r : RPo) (st : MSt) : RPo × MSt :=
  if r.line = 1 then (⟨if toN (peekV st (-2)) < 0 then 0 else 2, peekV st (-2), r.nx, r.slot⟩, st.load tn (-2))
  else if r.line = 2 then (⟨3, r.top, peekV st (aft F (toN r.top)), r.slot⟩, st.load tn (aft F (toN r.top)))
  else if r.line = 3 then (if swapB st (-2) r.top = true then ⟨0, r.top, r.nx, toN r.top⟩ else ⟨1, r.top, r.nx, r.slot⟩, st.swap tn (-2) r.top (topN (toN r.nx) (ver1 r.top)))
  else (r, st)
theorem fldA3 (k t a y n : Int) (d : Bool) (w : World) : (Instr.field 177 (.agg #[.int .i64 k, .int .i64 t, .int .i64 a, .int .u64 y, .int .u64 n, .bool d]) 3).run Tryz.prog w = .ok (.int .u64 y) w := by kernel_rfl
theorem fldA5 (k t a y n : Int) (d : Bool) (w : World) : (Instr.field 177 (.agg #[.int .i64 k, .int .i64 t, .int .i64 a, .int .u64 y, .int .u64 n, .bool d]) 5).run Tryz.prog w = .ok (.bool d) w := by kernel_rfl
theorem u32w1 (x : Int) (h0 : 0 ≤ x) (h1 : x < 4294967296) : IntKind.u32.wrap (x + 1) = (x + 1) % 4294967296 := by
  unfold IntKind.wrap
  simp [IntKind.signed, IntKind.bits]
section
variable {B : Nat} {w : World} {g : Nat} {R : RefB} {rv : Value} {gq : Nat} {st : MSt} {t s l b : Nat} {tn : Int} {r : RPo}
def RPost (B : Nat) (w : World) (g : Nat) (R : RefB) (rv : Value) (gq : Nat) (T : TypeId) (cs : List Value) (st : MSt) (e : Ending) (w' : World) : Prop := (∃ u, e = .returned u) ∧ RG B w w' g R rv gq T cs st
set_option maxRecDepth 100000 in
set_option maxHeartbeats 8000000 in
theorem rpop_ok (h : IsRMem B w g R rv st) (sd : Sound st.dev) (hc : Calm st) (c : CfgN t s l b) (ok : Okay (layF t s l b)) (hb : Blk w gq 84 (r.cells t s l b tn)) (ho : ¬ rfoot g R rv gq) (hr : r.Wf) (hU : ∀ a, W64 (peekV st a)) :
    Calls Tryz.prog 221 #[.pointer (some ⟨gq, 0, none⟩), .pointer (some ⟨g, 0, none⟩)] w (RPost B w g R rv gq 84 ((rpopS (layF t s l b) tn r st).1.cells t s l b tn) (rpopS (layF t s l b) tn r st).2) := by
  obtain ⟨line, top, nx, slot⟩ := r
  obtain ⟨hl, ht, hn⟩ := hr
  simp only at hl ht hn
  have M0 := Lib.hid (RG.of h hb ho)
  have HTo : Hid (∀ W v, W64 v → Calls Tryz.prog 187 #[.int .u64 v] W fun e w' => e = .returned (.int .i64 (toN v)) ∧ Ext W w') := Lib.hid (fun W v hv => rto_any v hv.1 hv.2 W)
  have HAf := Lib.hid (fun W n => rafter_ok (t := t) (s := s) (l := l) (b := b) c n W)
  rcases hl with rfl | rfl | rfl | rfl
  · have e : rpopS (layF t s l b) tn ⟨0, top, nx, slot⟩ st = (⟨0, top, nx, slot⟩, st) := rfl
    rw [e]
    have c5 : w.cell? ⟨gq, 5, none⟩ = some (.int .i64 0) := hb.cell 5
    clear h hb sd hc hU
    go_enter Tryz.func221, Tryz.ntmps221
    go_wp2_with fail
    (first | (refine bodyPost_ret (results_none rfl _ _ _) rfl ?_) | (refine bodyPost_end (results_none rfl _ _ _) rfl ?_))
    exact ⟨⟨_, rfl⟩, M0.out⟩
  · have e : rpopS (layF t s l b) tn ⟨1, top, nx, slot⟩ st = (⟨if toN (peekV st (-2)) < 0 then 0 else 2, peekV st (-2), nx, slot⟩, st.load tn (-2)) := rfl
    rw [e]
    have HL := Lib.hid (refLoad7v h sd hc tn (-2) 0 0 (by decide) (by decide))
    obtain ⟨a1, a2, a3, a4, a5, ha⟩ := load_tells st tn (-2)
    rw [ha] at HL
    have hf3 := fun W => fldA3 a1 a2 a3 (peekV st (-2)) a4 a5 W
    have hv := hU (-2)
    have HV := Lib.hid hv
    generalize peekV st (-2) = v at *
    generalize st.load tn (-2) = st1 at *
    obtain ⟨ln, hln⟩ : ∃ ln : Int, (if toN v < 0 then (0 : Int) else 2) = ln := ⟨_, rfl⟩
    rw [hln]
    have HLn := Lib.hid hln
    clear hln
    have c5 : w.cell? ⟨gq, 5, none⟩ = some (.int .i64 1) := hb.cell 5
    have c4 : w.cell? ⟨gq, 4, none⟩ = some (.int .i64 tn) := hb.cell 4
    clear h hb sd hc hU hv ha e
    go_enter Tryz.func221, Tryz.ntmps221
    go_wp2_with fail
    refine HL.out.mono ?_
    rintro e w1 ⟨rfl, r1, f1⟩
    have m1 := M0.out.to r1 f1
    have c6 : w1.cell? ⟨gq, 6, none⟩ = some (.int .u64 top) := m1.blk.cell 6
    have z6 : w1.frozen? ⟨gq, 6, none⟩ = false := m1.blk.frozen 6
    have m2 := m1.put 6 (.int .u64 v)
    have c5b : (w1.setCell ⟨gq, 6, none⟩ (.int .u64 v)).cell? ⟨gq, 5, none⟩ = some (.int .i64 1) := m2.blk.cell 5
    have z5b : (w1.setCell ⟨gq, 6, none⟩ (.int .u64 v)).frozen? ⟨gq, 5, none⟩ = false := m2.blk.frozen 5
    have m3 := m2.put 5 (.int .i64 2)
    have c6b : ((w1.setCell ⟨gq, 6, none⟩ (.int .u64 v)).setCell ⟨gq, 5, none⟩ (.int .i64 2)).cell? ⟨gq, 6, none⟩ = some (.int .u64 v) := m3.blk.cell 6
    have M3 := Lib.hid m3
    clear r1 f1 m1 m2 m3 M0
    go_wp2_with fail
    refine (HTo.out _ v HV.out).mono ?_
    rintro e w4 ⟨rfl, x4⟩
    have m4 := M3.out.ext x4
    have c5c : w4.cell? ⟨gq, 5, none⟩ = some (.int .i64 2) := m4.blk.cell 5
    have z5c : w4.frozen? ⟨gq, 5, none⟩ = false := m4.blk.frozen 5
    have M4 := Lib.hid m4
    have M5 := Lib.hid (m4.put 5 (.int .i64 0))
    clear x4 m4 c6 z6 c5b z5b c6b
    by_cases hneg : toN v < 0
    · have d1 : decide (toN v < 0) = true := by simp; omega
      go_wp2_with fail
      (first | (refine bodyPost_ret (results_none rfl _ _ _) rfl ?_) | (refine bodyPost_end (results_none rfl _ _ _) rfl ?_))
      exact ⟨⟨_, rfl⟩, by rw [← HLn.out, if_pos hneg]; exact M5.out⟩
    · have d1 : decide (toN v < 0) = false := by simp; omega
      go_wp2_with fail
      (first | (refine bodyPost_ret (results_none rfl _ _ _) rfl ?_) | (refine bodyPost_end (results_none rfl _ _ _) rfl ?_))
      exact ⟨⟨_, rfl⟩, by rw [← HLn.out, if_neg (by omega)]; exact M4.out⟩
  · have e : rpopS (layF t s l b) tn ⟨2, top, nx, slot⟩ st = (⟨3, top, peekV st (aft (layF t s l b) (toN top)), slot⟩, st.load tn (aft (layF t s l b) (toN top))) := rfl
    rw [e]
    have har := aft_rng ok (toN top)
    have HL : Hid (∀ W, RG B w W g R rv gq 84 (RPo.cells ⟨2, top, nx, slot⟩ t s l b tn) st → Calls Tryz.prog 113 #[.pointer (some ⟨g, 0, none⟩), .int .i64 1, .int .i64 tn, .int .i64 (aft (layF t s l b) (toN top)), .int .u64 0, .int .u64 0] W fun e w' => e = .returned (accV (st.load tn (aft (layF t s l b) (toN top))).last) ∧ RG B w w' g R rv gq 84 (RPo.cells ⟨2, top, nx, slot⟩ t s l b tn) (st.load tn (aft (layF t s l b) (toN top)))) := Lib.hid (fun W m => (refLoad7v m.ref sd hc tn _ 0 0 har.1 har.2).mono (by rintro e w' ⟨rfl, r1, f1⟩; exact ⟨rfl, m.to r1 f1⟩))
    obtain ⟨a1, a2, a3, a4, a5, ha⟩ := load_tells st tn (aft (layF t s l b) (toN top))
    rw [ha] at HL
    have hf3 := fun W => fldA3 a1 a2 a3 (peekV st (aft (layF t s l b) (toN top))) a4 a5 W
    have HTo1 := Lib.hid (fun W => HTo.out W top ht)
    have HAf1 := Lib.hid (fun W => HAf.out W (toN top))
    generalize peekV st (aft (layF t s l b) (toN top)) = v at *
    generalize st.load tn (aft (layF t s l b) (toN top)) = st1 at *
    generalize aft (layF t s l b) (toN top) = a at *
    generalize toN top = f at *
    have HP : Hid (∀ W s', RG B w W g R rv gq 84 (RPo.cells ⟨2, top, nx, slot⟩ t s l b tn) s' → (W.cell? ⟨gq, 0, none⟩ = some (.int .i64 t) ∧ W.cell? ⟨gq, 1, none⟩ = some (.int .i64 s) ∧ W.cell? ⟨gq, 2, none⟩ = some (.int .i64 l) ∧ W.cell? ⟨gq, 3, none⟩ = some (.int .i64 b)) ∧ W.cell? ⟨gq, 4, none⟩ = some (.int .i64 tn) ∧ W.cell? ⟨gq, 6, none⟩ = some (.int .u64 top)) := Lib.hid (fun W s' m => ⟨⟨m.blk.cell 0, m.blk.cell 1, m.blk.cell 2, m.blk.cell 3⟩, m.blk.cell 4, m.blk.cell 6⟩)
    have HP2 : Hid (∀ W s' u, RG B w W g R rv gq 84 (RPo.cells ⟨2, top, nx, slot⟩ t s l b tn) s' → ((W.setCell ⟨gq, 7, none⟩ u).cell? ⟨gq, 0, none⟩ = some (.int .i64 t) ∧ (W.setCell ⟨gq, 7, none⟩ u).cell? ⟨gq, 1, none⟩ = some (.int .i64 s) ∧ (W.setCell ⟨gq, 7, none⟩ u).cell? ⟨gq, 2, none⟩ = some (.int .i64 l) ∧ (W.setCell ⟨gq, 7, none⟩ u).cell? ⟨gq, 3, none⟩ = some (.int .i64 b)) ∧ (W.setCell ⟨gq, 7, none⟩ u).cell? ⟨gq, 4, none⟩ = some (.int .i64 tn) ∧ (W.setCell ⟨gq, 7, none⟩ u).cell? ⟨gq, 6, none⟩ = some (.int .u64 top)) := Lib.hid (fun W s' u m => ⟨⟨(m.put 7 u).blk.cell 0, (m.put 7 u).blk.cell 1, (m.put 7 u).blk.cell 2, (m.put 7 u).blk.cell 3⟩, (m.put 7 u).blk.cell 4, (m.put 7 u).blk.cell 6⟩)
    have M := Lib.hid (M0.out.ext ((Ext.refl w).drew))
    have c5 : w.cell? ⟨gq, 5, none⟩ = some (.int .i64 2) := hb.cell 5
    have c0 : w.cell? ⟨gq, 0, none⟩ = some (.int .i64 t) := hb.cell 0
    have c1 : w.cell? ⟨gq, 1, none⟩ = some (.int .i64 s) := hb.cell 1
    have c2 : w.cell? ⟨gq, 2, none⟩ = some (.int .i64 l) := hb.cell 2
    have c3 : w.cell? ⟨gq, 3, none⟩ = some (.int .i64 b) := hb.cell 3
    have c4 : w.cell? ⟨gq, 4, none⟩ = some (.int .i64 tn) := hb.cell 4
    have c6 : w.cell? ⟨gq, 6, none⟩ = some (.int .u64 top) := hb.cell 6
    clear h hb sd hc hU ha e har M0 HTo HAf
    go_enter Tryz.func221, Tryz.ntmps221
    go_wp2_with fail
    go_region_held3 (fun W => (W.cell? ⟨gq, 0, none⟩ = some (.int .i64 t) ∧ W.cell? ⟨gq, 1, none⟩ = some (.int .i64 s) ∧ W.cell? ⟨gq, 2, none⟩ = some (.int .i64 l) ∧ W.cell? ⟨gq, 3, none⟩ = some (.int .i64 b)) ∧ W.cell? ⟨gq, 4, none⟩ = some (.int .i64 tn) ∧ W.cell? ⟨gq, 6, none⟩ = some (.int .u64 top)) (first | exact HP.out _ _ M.out | exact HP2.out _ _ _ M.out | go_keep) (first
      | (go_at_call 187; refine (HTo1.out _).mono ?_; rintro e w1 ⟨rfl, x1⟩; replace M := Lib.hid (M.out.ext x1); clear x1)
      | (go_at_call 226; refine (HAf1.out _).mono ?_; rintro e w1 ⟨rfl, x1⟩; replace M := Lib.hid (M.out.ext x1); clear x1)
      | (go_at_call 113; refine (HL.out _ M.out).mono ?_; rintro e w1 ⟨rfl, m1⟩; replace M := Lib.hid m1; have y7 : w1.cell? ⟨gq, 7, none⟩ = some (.int .u64 nx) := M.out.blk.cell 7; have z7 : w1.frozen? ⟨gq, 7, none⟩ = false := M.out.blk.frozen 7; clear m1))
    all_goals
      have y5 : w1.cell? ⟨gq, 5, none⟩ = some (.int .i64 2) := M.out.blk.cell 5
      have z5 : w1.frozen? ⟨gq, 5, none⟩ = false := M.out.blk.frozen 5
      have M2 := Lib.hid ((M.out.put 7 (.int .u64 v)).put 5 (.int .i64 3))
      go_wp2_with fail
      (first | (refine bodyPost_ret (results_none rfl _ _ _) rfl ?_) | (refine bodyPost_end (results_none rfl _ _ _) rfl ?_))
      exact ⟨⟨_, rfl⟩, M2.out⟩
  · have e : rpopS (layF t s l b) tn ⟨3, top, nx, slot⟩ st = (if swapB st (-2) top = true then ⟨0, top, nx, toN top⟩ else ⟨1, top, nx, slot⟩, st.swap tn (-2) top (topN (toN nx) (ver1 top))) := rfl
    rw [e]
    have hnr := toN_rng hn
    have hv1 := ver1_rng top
    have HSw : Hid (∀ W cs, RG B w W g R rv gq 84 cs st → Calls Tryz.prog 113 #[.pointer (some ⟨g, 0, none⟩), .int .i64 3, .int .i64 tn, .int .i64 (-2), .int .u64 top, .int .u64 (topN (toN nx) (ver1 top))] W fun e w' => e = .returned (accV (st.swap tn (-2) top (topN (toN nx) (ver1 top))).last) ∧ RG B w w' g R rv gq 84 cs (st.swap tn (-2) top (topN (toN nx) (ver1 top)))) := Lib.hid (fun W cs m => (refSwap7v m.ref sd hc tn (-2) top _ (by decide) (by decide)).mono (by rintro e w' ⟨rfl, r1, f1⟩; exact ⟨rfl, m.to r1 f1⟩))
    obtain ⟨a1, a2, a3, a4, a5, ha⟩ := swap_tells st tn (-2) top (topN (toN nx) (ver1 top))
    rw [ha] at HSw
    have hf5 := fun W => fldA5 a1 a2 a3 a4 a5 (swapB st (-2) top) W
    have HTn := Lib.hid (fun W => HTo.out W nx hn)
    have HTt := Lib.hid (fun W => HTo.out W top ht)
    have HVe : Hid (∀ W, Calls Tryz.prog 228 #[.int .u64 top] W fun e w' => e = .returned (.int .u32 (verN top)) ∧ Ext W w') := Lib.hid (fun W => rver_any top ht.1 ht.2 W)
    have HTp : Hid (∀ W, Calls Tryz.prog 227 #[.int .i64 (toN nx), .int .u32 (ver1 top)] W fun e w' => e = .returned (.int .u64 (topN (toN nx) (ver1 top))) ∧ Ext W w') := Lib.hid (fun W => rtop_any (toN nx) (ver1 top) (by omega) (by omega) hv1.1 hv1.2 W)
    have hvr := verN_rng ht
    have hwr : IntKind.u32.wrap (verN top + 1) = ver1 top := by unfold ver1; exact u32w (verN top + 1) (by omega) (by omega)
    generalize topN (toN nx) (ver1 top) = z at *
    generalize st.swap tn (-2) top z = st1 at *
    generalize swapB st (-2) top = d at *
    obtain ⟨rr, hrr⟩ : ∃ rr : RPo, (if d = true then (⟨0, top, nx, toN top⟩ : RPo) else ⟨1, top, nx, slot⟩) = rr := ⟨_, rfl⟩
    rw [hrr]
    generalize ver1 top = v1 at *
    generalize verN top = v0 at *
    generalize toN nx = fn at *
    generalize toN top = ft at *
    have HRr := Lib.hid hrr
    clear hrr
    have HP : Hid (∀ W s' cs, (∀ i, i = 4 ∨ i = 6 ∨ i = 7 → cs[i]? = (RPo.cells ⟨3, top, nx, slot⟩ t s l b tn)[i]?) → RG B w W g R rv gq 84 cs s' → W.cell? ⟨gq, 4, none⟩ = some (.int .i64 tn) ∧ W.cell? ⟨gq, 6, none⟩ = some (.int .u64 top) ∧ W.cell? ⟨gq, 7, none⟩ = some (.int .u64 nx)) := Lib.hid (fun W s' cs hcs m => ⟨by rw [m.blk.cell, hcs 4 (Or.inl rfl)]; rfl, by rw [m.blk.cell, hcs 6 (Or.inr (Or.inl rfl))]; rfl, by rw [m.blk.cell, hcs 7 (Or.inr (Or.inr rfl))]; rfl⟩)
    have M := Lib.hid (M0.out.ext ((Ext.refl w).drew))
    have c5 : w.cell? ⟨gq, 5, none⟩ = some (.int .i64 3) := hb.cell 5
    have c4 : w.cell? ⟨gq, 4, none⟩ = some (.int .i64 tn) := hb.cell 4
    have c6 : w.cell? ⟨gq, 6, none⟩ = some (.int .u64 top) := hb.cell 6
    have c7 : w.cell? ⟨gq, 7, none⟩ = some (.int .u64 nx) := hb.cell 7
    clear h hb sd hc hU ha e M0 HTo HAf hnr hv1 hvr
    go_enter Tryz.func221, Tryz.ntmps221
    go_wp2_with fail
    go_region_held3 (fun W => W.cell? ⟨gq, 4, none⟩ = some (.int .i64 tn) ∧ W.cell? ⟨gq, 6, none⟩ = some (.int .u64 top) ∧ W.cell? ⟨gq, 7, none⟩ = some (.int .u64 nx)) (first | exact HP.out _ _ _ (fun _ _ => rfl) M.out | go_keep) (first
      | (go_at_call 187; refine (HTn.out _).mono ?_; rintro e w1 ⟨rfl, x1⟩; replace M := Lib.hid (M.out.ext x1); clear x1)
      | (go_at_call 228; refine (HVe.out _).mono ?_; rintro e w1 ⟨rfl, x1⟩; replace M := Lib.hid (M.out.ext x1); clear x1)
      | (go_at_call 227; refine (HTp.out _).mono ?_; rintro e w1 ⟨rfl, x1⟩; replace M := Lib.hid (M.out.ext x1); clear x1))
    all_goals
      have y5 : w1.cell? ⟨gq, 5, none⟩ = some (.int .i64 3) := M.out.blk.cell 5
      have z5 : w1.frozen? ⟨gq, 5, none⟩ = false := M.out.blk.frozen 5
      have M2 : Hid (RG B w (w1.setCell ⟨gq, 5, none⟩ (.int .i64 1)) g R rv gq 84 (RPo.cells ⟨1, top, nx, slot⟩ t s l b tn) st) := Lib.hid (M.out.put 5 (.int .i64 1))
      go_upto_region 11 with fail
      generalize w1.setCell ⟨gq, 5, none⟩ (.int .i64 1) = w2 at *
      clear y5 z5 M
      have M := Lib.hid (M2.out.ext ((Ext.refl w2).drew))
      have c4 : w2.cell? ⟨gq, 4, none⟩ = some (.int .i64 tn) := M2.out.blk.cell 4
      have c6 : w2.cell? ⟨gq, 6, none⟩ = some (.int .u64 top) := M2.out.blk.cell 6
      clear M2
      go_wp2_with fail
      go_region_held3 (fun W => W.cell? ⟨gq, 4, none⟩ = some (.int .i64 tn) ∧ W.cell? ⟨gq, 6, none⟩ = some (.int .u64 top) ∧ W.cell? ⟨gq, 7, none⟩ = some (.int .u64 nx)) (first | exact HP.out _ _ _ (fun i hi => by rcases hi with rfl | rfl | rfl <;> rfl) M.out | go_keep) (first
        | (go_at_call 113; refine (HSw.out _ _ M.out).mono ?_; rintro e w1 ⟨rfl, m1⟩; replace M := Lib.hid m1; clear m1))
      all_goals
        cases d
        · go_wp2_with fail
          (first | (refine bodyPost_ret (results_none rfl _ _ _) rfl ?_) | (refine bodyPost_end (results_none rfl _ _ _) rfl ?_))
          exact ⟨⟨_, rfl⟩, by rw [← HRr.out]; exact M.out⟩
        · have k6 : w1.cell? ⟨gq, 6, none⟩ = some (.int .u64 top) := M.out.blk.cell 6
          go_wp2_with fail
          refine (HTt.out _).mono ?_
          rintro e w3 ⟨rfl, x3⟩
          have m3 := M.out.ext x3
          have k8 : w3.cell? ⟨gq, 8, none⟩ = some (.int .i64 slot) := m3.blk.cell 8
          have z8 : w3.frozen? ⟨gq, 8, none⟩ = false := m3.blk.frozen 8
          have m4 := m3.put 8 (.int .i64 ft)
          have k5 : (w3.setCell ⟨gq, 8, none⟩ (.int .i64 ft)).cell? ⟨gq, 5, none⟩ = some (.int .i64 1) := m4.blk.cell 5
          have z5 : (w3.setCell ⟨gq, 8, none⟩ (.int .i64 ft)).frozen? ⟨gq, 5, none⟩ = false := m4.blk.frozen 5
          have M5 := Lib.hid (m4.put 5 (.int .i64 0))
          clear m3 m4 x3
          go_wp2_with fail
          (first | (refine bodyPost_ret (results_none rfl _ _ _) rfl ?_) | (refine bodyPost_end (results_none rfl _ _ _) rfl ?_))
          exact ⟨⟨_, rfl⟩, by rw [← HRr.out]; exact M5.out⟩
end
end Go.Proofs.YtndplpfbohigpaaGreat
