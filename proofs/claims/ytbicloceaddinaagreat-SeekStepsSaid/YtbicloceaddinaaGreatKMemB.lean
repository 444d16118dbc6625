/- The document's memory: Peek. Conditions: those that each theorem names. -/
import Derived.Test.YtbicloceaddinaaGreatKMemA
import Derived.Deep.DeepCutAuto
namespace Go.Proofs.YtbicloceaddinaaGreat
open Go.ChangeShapes Go.WideShapes Go.ChangeAt Go.RowKit
set_option linter.unusedVariables false
/-- The document's memory while a call goes on: its own cells may be others. -/
structure RM (B : Nat) (w0 w : World) (g : Nat) (R : RefB) (pv : Value) (cs : List Value) (d : DSt) (ps : List Int) : Prop where
  bg : B ≤ g
  blk : Blk w g 133 cs
  pas : Row w B 45 .u64 pv ps
  dev : RefAt B w R d
  pk : ∀ b, pv.ownBlock = some b → R.vk.ownBlock ≠ some b ∧ R.vs.ownBlock ≠ some b
  lp : ps.length ≤ 262144
  fr : Fr (rfoot g R pv) w0 w
  lo : ∀ b, rfoot g R pv b → b < w0.heap.size
section
variable {B g : Nat} {w0 w w' : World} {R : RefB} {pv : Value} {cs : List Value} {d : DSt} {pas : List Int} {s : MSt}
theorem RM.of (h : IsRMem B w g R pv s) : RM B w w g R pv (memCells R.ptr pv s) s.dev s.pas := ⟨h.bg, h.blk, h.pas, h.dev, h.pk, h.lp, Fr.refl _ _, fun b hb => (h.foot_lt hb).2⟩
theorem RM.done (h : RM B w0 w g R pv cs d pas) (s' : MSt) (hc : cs = memCells R.ptr pv s') (hd : d = s'.dev) (hp : pas = s'.pas) : IsRMem B w g R pv s' ∧ Fr (rfoot g R pv) w0 w := by
  subst hc hd hp
  exact ⟨⟨h.bg, h.blk, h.pas, h.dev, h.pk, h.lp⟩, h.fr⟩
theorem RM.kept (h : RM B w0 w g R pv cs d pas) {S : Nat → Prop} (f : Fr S w w') (hS : ∀ b, rfoot g R pv b → ¬ S b) (hS2 : ∀ b, S b → w0.heap.size ≤ b) : RM B w0 w' g R pv cs d pas :=
  ⟨h.bg, h.blk.fr f (hS _ (Or.inl rfl)), h.pas.fr f (fun b hb => hS b (Or.inr (Or.inl hb))), h.dev.fr f (fun b hb => hS b (Or.inr (Or.inr hb))), h.pk, h.lp, h.fr.trans f (fun b hb hs => absurd (hS2 b hs) (by omega)), h.lo⟩
theorem RM.ext (h : RM B w0 w g R pv cs d pas) (x : Ext w w') : RM B w0 w' g R pv cs d pas := h.kept (S := fun _ => False) (Fr.of_ext x) (fun _ _ hs => hs) (fun _ hs => hs.elim)
theorem RM.alloc (h : RM B w0 w g R pv cs d pas) (o : Obj) : RM B w0 (w.alloc o) g R pv cs d pas := h.ext ((Ext.refl w).alloc o)
theorem RM.drew (h : RM B w0 w g R pv cs d pas) : RM B w0 w.drew g R pv cs d pas := h.ext ((Ext.refl w).drew)
/-- A store into a block of the call's own. -/
theorem RM.loc (h : RM B w0 w g R pv cs d pas) {p : Addr} (hp : w0.heap.size ≤ p.block) (u : Value) : RM B w0 (w.setCell p u) g R pv cs d pas :=
  h.kept (S := fun b => b = p.block) (Fr.setCell (S := fun b => b = p.block) (p := p) (Fr.refl _ w) (Or.inl rfl) u) (fun b hb e => by have := h.lo b hb; omega) (fun b e => by omega)
theorem RM.off (h : RM B w0 w g R pv cs d pas) : ¬ R.foot g ∧ pv.ownBlock ≠ some g ∧ ∀ b, pv.ownBlock = some b → ¬ R.foot b := by
  have hi := h.dev.is
  refine ⟨?_, h.pas.blk h.blk (by decide), ?_⟩
  · rintro (e | e | e | e | e | e)
    · exact hi.blk.ne h.blk (by decide) e.symm
    · exact hi.kept.blk h.blk (by decide) e
    · exact hi.seen.blk h.blk (by decide) e
    · exact hi.writes.blk h.blk (by decide) (by rw [e]; rfl)
    · exact hi.flr.blk h.blk (by decide) e
    · obtain ⟨t, ht, rfl⟩ := List.getElem_of_mem e
      have := hi.row t ht
      rw [List.getD_eq_getElem?_getD, List.getElem?_eq_getElem ht] at this
      exact this.ne h.blk (by decide) rfl
  · intro b hb
    rintro (e | e | e | e | e | e)
    · exact h.pas.blk hi.blk (by decide) (by rw [hb, e])
    · exact (h.pk b hb).1 e
    · exact (h.pk b hb).2 e
    · exact h.pas.row2 hi.writes (by decide) b hb (by rw [e]; rfl)
    · exact h.pas.row hi.flr (by decide) b hb e
    · obtain ⟨t, ht, rfl⟩ := List.getElem_of_mem e
      have := hi.row t ht
      rw [List.getD_eq_getElem?_getD, List.getElem?_eq_getElem ht] at this
      exact h.pas.blk this (by decide) hb
/-- A store into its own block. -/
theorem RM.set (h : RM B w0 w g R pv cs d pas) (i : Nat) (u : Value) : RM B w0 (w.setCell ⟨g, i, none⟩ u) g R pv (cs.set i u) d pas := by
  have f := Fr.setCell (S := fun b => b = g) (p := ⟨g, i, none⟩) (Fr.refl _ w) (Or.inl rfl) u
  obtain ⟨o1, o2, o3⟩ := h.off
  exact ⟨h.bg, h.blk.set i u, h.pas.fr f (fun b hb e => o2 (by rw [← e]; exact hb)), h.dev.fr f (fun b hb e => o1 (by rw [← e]; exact hb)), h.pk, h.lp, h.fr.trans f (fun b _ e => Or.inl e), h.lo⟩
/-- What was done to its device. -/
theorem RM.devTo (h : RM B w0 w g R pv cs d pas) {d' : DSt} (hd : RefAt B w' R d') (f : Fr R.foot w w') : RM B w0 w' g R pv cs d' pas := by
  obtain ⟨o1, o2, o3⟩ := h.off
  exact ⟨h.bg, h.blk.fr f o1, h.pas.fr f o3, hd, h.pk, h.lp, h.fr.trans f (fun b _ e => Or.inr (Or.inr e)), h.lo⟩
/-- A store among the passing words. -/
theorem RM.pasTo (h : RM B w0 w g R pv cs d pas) {gp c : Nat} (e : pv = .slice (some ⟨gp, 0, none⟩) pas.length c) (j : Nat) (x : Int) : RM B w0 (w.setCell ⟨gp, j, none⟩ (.int .u64 x)) g R pv cs d (pas.set j x) := by
  have f := Fr.setCell (S := fun b => b = gp) (p := ⟨gp, j, none⟩) (Fr.refl _ w) (Or.inl rfl) (.int .u64 x)
  have hg : pv.ownBlock = some gp := by rw [e]; rfl
  obtain ⟨o1, o2, o3⟩ := h.off
  refine ⟨h.bg, h.blk.fr f (fun e2 => o2 (by rw [e2]; exact hg)), ?_, h.dev.fr f (fun b hb e2 => o3 gp hg (by rw [← e2]; exact hb)), h.pk, by rw [List.length_set]; exact h.lp, h.fr.trans f (fun b _ e2 => Or.inr (Or.inl (by rw [e2]; exact hg))), h.lo⟩
  have hr : RowN w B 45 1 .u64 (.slice (some ⟨gp, 0, none⟩) pas.length c) pas.length pas := by rw [← e]; exact RowN.of_row h.pas
  have h3 := hr.set (j := j) x
  rw [e]
  unfold RowN at h3
  unfold Row
  rw [List.length_set]
  exact h3
/-- A store among the words that are seen. -/
theorem RM.seenTo (h : RM B w0 w g R pv cs d pas) (n0 : 0 < d.n) {gs c : Nat} (e : R.vs = .slice (some ⟨gs, 0, none⟩) (d.n * 8) c) (p : Nat) (x : Int) : RM B w0 (w.setCell ⟨gs, p, none⟩ (.int .u64 x)) g R pv cs { d with seen := d.seen.set p x } pas := by
  obtain ⟨h1, f⟩ := h.dev.store n0 e p x
  exact h.devTo h1 f
set_option maxRecDepth 100000 in
set_option maxHeartbeats 2000000 in
theorem refPeek_ok (h : IsRMem B w g R pv s) (ok : Sound s.dev) (a : Int) (h0 : -9223372036854775808 ≤ a) (h1 : a < 9223372036854775808) :
    Calls Tryz.prog 123 #[.pointer (some ⟨g, 0, none⟩), .int .i64 a] w fun e w' => e = .returned (.tuple #[.int .u64 (peekV s a), .bool (peekB s a)]) ∧ w = w' := by
  have c0 : w.cell? ⟨g, 0, none⟩ = some (.pointer (some ⟨R.g, 0, none⟩)) := h.blk.cell 0
  have c1 : w.cell? ⟨g, 1, none⟩ = some pv := h.blk.cell 1
  have lp := h.lp
  have n1 := ok.n1
  obtain ⟨gk, ck, gs, cs, gf, cf, e1, e2, e3⟩ := h.dev.sh ok.n0 ok.T0
  have d1 : w.cell? ⟨R.g, 1, none⟩ = some (.slice (some ⟨gs, 0, none⟩) (s.dev.n * 8) cs) := by rw [← e2]; exact h.dev.is.blk.cell 1
  have hsl := h.dev.ls
  by_cases ha : 0 ≤ a
  · have E1 : peekV s a = loadV s.dev a := by unfold peekV; rw [if_pos ha]
    have E2 : peekB s a = decide (a < (s.dev.n : Int) * 8) := by unfold peekB; rw [if_pos ha]
    rw [E1, E2]
    clear E1 E2 c1
    obtain ⟨p, rfl⟩ := Int.eq_ofNat_of_zero_le ha
    by_cases hl : (p : Int) < (s.dev.n : Int) * 8
    · have hp : p < s.dev.n * 8 := by omega
      have hcp : w.cell? ⟨gs, p, none⟩ = some (.int .u64 (s.dev.seen.getD p 0)) := RowN.cell (n := s.dev.n * 8) (c := cs) (by have := RowN.of_row h.dev.is.seen; rw [e2, hsl] at this; exact this) (by omega)
      rw [show loadV s.dev (p : Int) = s.dev.seen.getD p 0 by unfold loadV; rw [if_pos ⟨ha, hl⟩]; rfl, decide_eq_true hl]
      generalize s.dev.seen.getD p 0 = x at *
      clear h hsl e1 e2 e3 ha
      generalize hL : s.dev.n * 8 = L at *
      have u2 : (p : Int) < (L : Int) := by omega
      have u3 : decide (p < L) = true := by simp; omega
      have u4 : (0 : Int) ≤ (p : Int) := by omega
      clear hl hL
      go_enter Tryz.func123, Tryz.ntmps123
      go_wp2_with fail
      go_ret2
      exact ⟨rfl, rfl⟩
    · rw [show loadV s.dev (p : Int) = 0 by unfold loadV; rw [if_neg (fun hh => hl hh.2)], decide_eq_false hl]
      clear h hsl e1 e2 e3 ha
      generalize hL : s.dev.n * 8 = L at *
      have u2 : ¬ (p : Int) < (L : Int) := by omega
      have u3 : decide (p < L) = false := by simp; omega
      have u4 : (0 : Int) ≤ (p : Int) := by omega
      have u5 : ¬ (p : Int) < 0 := by omega
      clear hl hL
      go_enter Tryz.func123, Tryz.ntmps123
      go_wp2_with fail
      go_ret2
      exact ⟨rfl, rfl⟩
  · have hn : a < 0 := by omega
    have E1 : peekV s a = s.pas.getD (-1 - a).toNat 0 := by unfold peekV; rw [if_neg ha]
    have E2 : peekB s a = decide (-1 - a < (s.pas.length : Int)) := by unfold peekB; rw [if_neg ha]
    rw [E1, E2]
    clear E1 E2
    by_cases hl : -1 - a < (s.pas.length : Int)
    · obtain ⟨j, hj⟩ := Int.eq_ofNat_of_zero_le (show 0 ≤ -1 - a by omega)
      obtain ⟨gp, c, e, _, _, _, hgl⟩ := (RowN.of_row h.pas).at_ (by omega)
      have hcl : w.cell? ⟨gp, j, none⟩ = some (.int .u64 (s.pas.getD j 0)) := RowN.cell (by rw [← e]; exact RowN.of_row h.pas) (by omega)
      rw [decide_eq_true hl, hj]
      rw [show ((j : Int)).toNat = j from rfl]
      rw [e] at c1
      generalize s.pas.getD j 0 = x at *
      clear h hsl e1 e2 e3 e d1
      generalize s.pas.length = N at *
      have u1 : -(N : Int) ≤ a := by omega
      have u3 : decide (-(N : Int) ≤ a) = true := by simp; omega
      obtain rfl : a = -1 - (j : Int) := by omega
      have u5 : -1 - (-1 - (j : Int)) = (j : Int) := by omega
      have u6 : j < N := by omega
      have u7 : decide (j < N) = true := by simp; omega
      go_enter Tryz.func123, Tryz.ntmps123
      go_wp2_with fail
      go_ret2
      exact ⟨rfl, rfl⟩
    · rw [decide_eq_false hl]
      rw [show s.pas.getD (-1 - a).toNat 0 = 0 by rw [List.getD_eq_getElem?_getD, List.getElem?_eq_none (by omega)]; rfl]
      obtain ⟨A, c, e, _, _⟩ := h.pas.form
      rw [e] at c1
      clear h hsl e1 e2 e3 e d1
      generalize s.pas.length = N at *
      have u1 : ¬ -(N : Int) ≤ a := by omega
      have u3 : decide (-(N : Int) ≤ a) = false := by simp; omega
      go_enter Tryz.func123, Tryz.ntmps123
      go_wp2_with fail
      go_ret2
      exact ⟨rfl, rfl⟩
end
end Go.Proofs.YtbicloceaddinaaGreat


/- The document's memory: Do. Conditions: those that each theorem names. -/
namespace Go.Proofs.YtbicloceaddinaaGreat
open Go.ChangeShapes Go.WideShapes Go.ChangeAt Go.RowKit
set_option linter.unusedVariables false
/-- What is told of an access. -/
def accV (x : Acc) : Value := .agg #[.int .i64 x.k, .int .i64 x.t, .int .i64 x.a, .int .u64 x.o, .int .u64 x.n, .bool x.d]
section
variable {B g : Nat} {w : World} {R : RefB} {pv : Value} {s : MSt}
set_option maxRecDepth 100000 in
set_option maxHeartbeats 2000000 in
theorem refLoad7v (h : IsRMem B w g R pv s) (ok : Sound s.dev) (hc : Calm s) (t a z x : Int) (h0 : -9223372036854775808 ≤ a) (h1 : a < 9223372036854775808) :
    Calls Tryz.prog 50 #[.pointer (some ⟨g, 0, none⟩), .int .i64 1, .int .i64 t, .int .i64 a, .int .u64 z, .int .u64 x] w fun e w' => e = .returned (accV (s.load t a).last) ∧ IsRMem B w' g R pv (s.load t a) ∧ Fr (rfoot g R pv) w w' := by
  have HP := Lib.hid (fun (W : World) (y : Ext w W) => refPeek_ok (h.ext y) ok a h0 h1)
  have HR := Lib.hid (RM.of h)
  have hg : g < w.heap.size := h.blk.lt
  have hg2 : ¬ g = w.heap.size := by omega
  have hg3 : ¬ w.heap.size = g := by omega
  have hg4 : ¬ g = w.heap.size + 1 := by omega
  have hg5 : ¬ w.heap.size + 1 = g := by omega
  obtain ⟨k0, k1, b0, b1⟩ := hc
  have c0 : w.cell? ⟨g, 0, none⟩ = some (.pointer (some ⟨R.g, 0, none⟩)) := h.blk.cell 0
  have c2 : w.cell? ⟨g, 2, none⟩ = some (.int .i64 s.clock) := h.blk.cell 2
  have c3 : w.cell? ⟨g, 3, none⟩ = some (.int .i64 s.bad) := h.blk.cell 3
  have c4 : w.cell? ⟨g, 4, none⟩ = some (.int .i64 s.last.k) := h.blk.cell 4
  have c5 : w.cell? ⟨g, 5, none⟩ = some (.int .i64 s.last.t) := h.blk.cell 5
  have c6 : w.cell? ⟨g, 6, none⟩ = some (.int .i64 s.last.a) := h.blk.cell 6
  have c7 : w.cell? ⟨g, 7, none⟩ = some (.int .u64 s.last.o) := h.blk.cell 7
  have c8 : w.cell? ⟨g, 8, none⟩ = some (.int .u64 s.last.n) := h.blk.cell 8
  have c9 : w.cell? ⟨g, 9, none⟩ = some (.bool s.last.d) := h.blk.cell 9
  have f2 : w.frozen? ⟨g, 2, none⟩ = false := h.blk.frozen 2
  have f3 : w.frozen? ⟨g, 3, none⟩ = false := h.blk.frozen 3
  have f4 : w.frozen? ⟨g, 4, none⟩ = false := h.blk.frozen 4
  have f5 : w.frozen? ⟨g, 5, none⟩ = false := h.blk.frozen 5
  have f6 : w.frozen? ⟨g, 6, none⟩ = false := h.blk.frozen 6
  have f7 : w.frozen? ⟨g, 7, none⟩ = false := h.blk.frozen 7
  have f8 : w.frozen? ⟨g, 8, none⟩ = false := h.blk.frozen 8
  have f9 : w.frozen? ⟨g, 9, none⟩ = false := h.blk.frozen 9
  cases hp : peekB s a
  · rw [hp] at HP
    have E := Lib.hid (show s.load t a = s.note ⟨1, t, a, 0, 0, false⟩ true by unfold MSt.load; rw [hp]; rfl)
    have E2 := Lib.hid (peekV_no hp)
    rw [E2.out] at HP
    clear h ok hp
    go_enter Tryz.func50, Tryz.ntmps50
    go_wp2_with fail
    refine (HP.out _ (by exact ext2 w _ _)).mono ?_
    rintro e w' ⟨rfl, rfl⟩
    go_wp2_with fail
    rw [E.out]
    refine bodyPost_ret (v := .agg #[.int .i64 1, .int .i64 t, .int .i64 a, .int .u64 0, .int .u64 0, .bool false]) (by simp [results, Tryz.results50, go_sem]) rfl ⟨rfl, ?_⟩
    exact ((((((((((HR.out.set 2 (.int .i64 (s.clock + 1))).set 3 (.int .i64 (s.bad + 1))).set 4 (.int .i64 1)).set 5 (.int .i64 t)).set 6 (.int .i64 a)).set 7 (.int .u64 0)).set 8 (.int .u64 0)).set 9 (.bool false)).alloc _).alloc _).done (s.note ⟨1, t, a, 0, 0, false⟩ true) rfl rfl rfl
  · rw [hp] at HP
    have E := Lib.hid (show s.load t a = s.note ⟨1, t, a, peekV s a, 0, true⟩ false by unfold MSt.load; rw [hp]; rfl)
    generalize peekV s a = y at *
    clear h ok hp
    go_enter Tryz.func50, Tryz.ntmps50
    go_wp2_with fail
    refine (HP.out _ (by exact ext2 w _ _)).mono ?_
    rintro e w' ⟨rfl, rfl⟩
    go_wp2_with fail
    rw [E.out]
    refine bodyPost_ret (v := .agg #[.int .i64 1, .int .i64 t, .int .i64 a, .int .u64 y, .int .u64 0, .bool true]) (by simp [results, Tryz.results50, go_sem]) rfl ⟨rfl, ?_⟩
    exact (((((((((HR.out.set 2 (.int .i64 (s.clock + 1))).set 4 (.int .i64 1)).set 5 (.int .i64 t)).set 6 (.int .i64 a)).set 7 (.int .u64 y)).set 8 (.int .u64 0)).set 9 (.bool true)).alloc _).alloc _).done (s.note ⟨1, t, a, y, 0, true⟩ false) rfl rfl rfl
theorem refLoad7 (h : IsRMem B w g R pv s) (ok : Sound s.dev) (hc : Calm s) (t a z x : Int) (h0 : -9223372036854775808 ≤ a) (h1 : a < 9223372036854775808) :
    Calls Tryz.prog 50 #[.pointer (some ⟨g, 0, none⟩), .int .i64 1, .int .i64 t, .int .i64 a, .int .u64 z, .int .u64 x] w fun e w' => (∃ u, e = .returned u) ∧ IsRMem B w' g R pv (s.load t a) ∧ Fr (rfoot g R pv) w w' :=
  (refLoad7v h ok hc t a z x h0 h1).mono fun e w' hh => ⟨⟨_, hh.1⟩, hh.2⟩
set_option maxRecDepth 100000 in
set_option maxHeartbeats 2000000 in
theorem refStore7v (h : IsRMem B w g R pv s) (ok : Sound s.dev) (hc : Calm s) (t a z x : Int) (h0 : -9223372036854775808 ≤ a) (h1 : a < 9223372036854775808) :
    Calls Tryz.prog 50 #[.pointer (some ⟨g, 0, none⟩), .int .i64 2, .int .i64 t, .int .i64 a, .int .u64 z, .int .u64 x] w fun e w' => e = .returned (accV (s.store t a x).last) ∧ IsRMem B w' g R pv (s.store t a x) ∧ Fr (rfoot g R pv) w w' := by
  have HP := Lib.hid (fun (W : World) (y : Ext w W) => refPeek_ok (h.ext y) ok a h0 h1)
  have HR := Lib.hid (RM.of h)
  have hg : g < w.heap.size := h.blk.lt
  have hg2 : ¬ g = w.heap.size := by omega
  have hg3 : ¬ w.heap.size = g := by omega
  have hg4 : ¬ g = w.heap.size + 1 := by omega
  have hg5 : ¬ w.heap.size + 1 = g := by omega
  obtain ⟨k0, k1, b0, b1⟩ := hc
  have c0 : w.cell? ⟨g, 0, none⟩ = some (.pointer (some ⟨R.g, 0, none⟩)) := h.blk.cell 0
  have c2 : w.cell? ⟨g, 2, none⟩ = some (.int .i64 s.clock) := h.blk.cell 2
  have c3 : w.cell? ⟨g, 3, none⟩ = some (.int .i64 s.bad) := h.blk.cell 3
  have c4 : w.cell? ⟨g, 4, none⟩ = some (.int .i64 s.last.k) := h.blk.cell 4
  have c5 : w.cell? ⟨g, 5, none⟩ = some (.int .i64 s.last.t) := h.blk.cell 5
  have c6 : w.cell? ⟨g, 6, none⟩ = some (.int .i64 s.last.a) := h.blk.cell 6
  have c7 : w.cell? ⟨g, 7, none⟩ = some (.int .u64 s.last.o) := h.blk.cell 7
  have c8 : w.cell? ⟨g, 8, none⟩ = some (.int .u64 s.last.n) := h.blk.cell 8
  have c9 : w.cell? ⟨g, 9, none⟩ = some (.bool s.last.d) := h.blk.cell 9
  have f2 : w.frozen? ⟨g, 2, none⟩ = false := h.blk.frozen 2
  have f3 : w.frozen? ⟨g, 3, none⟩ = false := h.blk.frozen 3
  have f4 : w.frozen? ⟨g, 4, none⟩ = false := h.blk.frozen 4
  have f5 : w.frozen? ⟨g, 5, none⟩ = false := h.blk.frozen 5
  have f6 : w.frozen? ⟨g, 6, none⟩ = false := h.blk.frozen 6
  have f7 : w.frozen? ⟨g, 7, none⟩ = false := h.blk.frozen 7
  have f8 : w.frozen? ⟨g, 8, none⟩ = false := h.blk.frozen 8
  have f9 : w.frozen? ⟨g, 9, none⟩ = false := h.blk.frozen 9
  cases hp : peekB s a
  · rw [hp] at HP
    have E := Lib.hid (show s.store t a x = s.note ⟨2, t, a, 0, x, false⟩ true by unfold MSt.store; rw [hp]; rfl)
    have E2 := Lib.hid (peekV_no hp)
    rw [E2.out] at HP
    clear h ok hp
    go_enter Tryz.func50, Tryz.ntmps50
    go_wp2_with fail
    refine (HP.out _ (by exact ext2 w _ _)).mono ?_
    rintro e w' ⟨rfl, rfl⟩
    go_wp2_with fail
    rw [E.out]
    refine bodyPost_ret (v := .agg #[.int .i64 2, .int .i64 t, .int .i64 a, .int .u64 0, .int .u64 x, .bool false]) (by simp [results, Tryz.results50, go_sem]) rfl ⟨rfl, ?_⟩
    exact ((((((((((HR.out.set 2 (.int .i64 (s.clock + 1))).set 3 (.int .i64 (s.bad + 1))).set 4 (.int .i64 2)).set 5 (.int .i64 t)).set 6 (.int .i64 a)).set 7 (.int .u64 0)).set 8 (.int .u64 x)).set 9 (.bool false)).alloc _).alloc _).done (s.note ⟨2, t, a, 0, x, false⟩ true) rfl rfl rfl
  · rw [hp] at HP
    have E := Lib.hid (show s.store t a x = (s.put a x).note ⟨2, t, a, peekV s a, x, true⟩ false by unfold MSt.store; rw [if_pos hp])
    generalize peekV s a = y at *
    by_cases ha : 0 ≤ a
    · obtain ⟨gk, ck, gs, cs, gf, cf, e1, e2, e3⟩ := h.dev.sh ok.n0 ok.T0
      have d1 : w.cell? ⟨R.g, 1, none⟩ = some (.slice (some ⟨gs, 0, none⟩) (s.dev.n * 8) cs) := by rw [← e2]; exact h.dev.is.blk.cell 1
      have hsl := h.dev.ls
      have hl : a < (s.dev.n : Int) * 8 := by unfold peekB at hp; rw [if_pos ha] at hp; simpa using hp
      obtain ⟨p, rfl⟩ := Int.eq_ofNat_of_zero_le ha
      have hpl : p < s.dev.n * 8 := by omega
      have hsr : RowN w B 45 1 .u64 (.slice (some ⟨gs, 0, none⟩) (s.dev.n * 8) cs) (s.dev.n * 8) s.dev.seen := by have := RowN.of_row h.dev.is.seen; rw [e2, hsl] at this; exact this
      have hcp : w.cell? ⟨gs, p, none⟩ = some (.int .u64 (s.dev.seen.getD p 0)) := RowN.cell hsr (by omega)
      have hfp : w.frozen? ⟨gs, p, none⟩ = false := RowN.frozen hsr p
      have hgs : gs < w.heap.size := (World.ownsRow.lt hsr gs rfl).2
      have hRg : R.g < w.heap.size := h.dev.is.blk.lt
      have hRg2 : ¬ R.g = w.heap.size := by omega
      have hRg3 : ¬ R.g = w.heap.size + 1 := by omega
      have q1 : ¬ gs = w.heap.size := by omega
      have q2 : ¬ gs = w.heap.size + 1 := by omega
      have q3 : ¬ w.heap.size = gs := by omega
      have q4 : ¬ w.heap.size + 1 = gs := by omega
      have q5 : ¬ gs = g := fun e => HR.out.off.1 (Or.inr (Or.inr (Or.inl (by rw [e2, ← e]; rfl))))
      have q6 : ¬ g = gs := fun e => q5 e.symm
      have ES := Lib.hid (show s.put (p : Int) x = { s with dev := { s.dev with seen := s.dev.seen.set p x } } by unfold MSt.put DSt.store; rw [if_pos ha, if_pos ⟨ha, hl⟩]; rfl)
      have RS := Lib.hid (HR.out.seenTo ok.n0 e2 p x)
      rw [ES.out] at E
      generalize s.dev.seen.getD p 0 = yy at *
      clear h hsl e1 e2 e3 ha hp hsr ok HR
      generalize hL : s.dev.n * 8 = L at *
      clear hl hL h0 h1
      go_enter Tryz.func50, Tryz.ntmps50
      go_wp2_with fail
      refine (HP.out _ (by exact ext2 w _ _)).mono ?_
      rintro e w' ⟨rfl, rfl⟩
      go_wp2_with fail
      rw [E.out]
      refine bodyPost_ret (v := .agg #[.int .i64 2, .int .i64 t, .int .i64 (p : Int), .int .u64 y, .int .u64 x, .bool true]) (by simp [results, Tryz.results50, go_sem]) rfl ⟨rfl, ?_⟩
      exact (((((((((RS.out.set 2 (.int .i64 (s.clock + 1))).set 4 (.int .i64 2)).set 5 (.int .i64 t)).set 6 (.int .i64 (p : Int))).set 7 (.int .u64 y)).set 8 (.int .u64 x)).set 9 (.bool true)).alloc _).alloc _).done ({ s with dev := { s.dev with seen := s.dev.seen.set p x } }.note ⟨2, t, (p : Int), y, x, true⟩ false) rfl rfl rfl
    · have hn : a < 0 := by omega
      have hl : -1 - a < (s.pas.length : Int) := by unfold peekB at hp; rw [if_neg ha] at hp; simpa using hp
      obtain ⟨j, hj⟩ := Int.eq_ofNat_of_zero_le (show 0 ≤ -1 - a by omega)
      obtain ⟨gp, c, e, _, _, _, hgl⟩ := (RowN.of_row h.pas).at_ (by omega)
      have c1 : w.cell? ⟨g, 1, none⟩ = some pv := h.blk.cell 1
      rw [e] at c1
      have hcl : w.cell? ⟨gp, j, none⟩ = some (.int .u64 (s.pas.getD j 0)) := RowN.cell (by rw [← e]; exact RowN.of_row h.pas) (by omega)
      have hfp : w.frozen? ⟨gp, j, none⟩ = false := RowN.frozen (by rw [← e]; exact RowN.of_row h.pas) j
      have q1 : ¬ gp = w.heap.size := by omega
      have q2 : ¬ gp = w.heap.size + 1 := by omega
      have q3 : ¬ w.heap.size = gp := by omega
      have q4 : ¬ w.heap.size + 1 = gp := by omega
      have q5 : ¬ gp = g := fun e5 => HR.out.off.2.1 (by rw [e, ← e5]; rfl)
      have q6 : ¬ g = gp := fun e => q5 e.symm
      have ES := Lib.hid (show s.put a x = { s with pas := s.pas.set j x } by unfold MSt.put; rw [if_neg ha, hj]; rfl)
      have RS := Lib.hid (HR.out.pasTo e j x)
      rw [ES.out] at E
      generalize s.pas.getD j 0 = yy at *
      have EE := Lib.hid e
      clear h e hp ok HR
      generalize hN : s.pas.length = N at *
      obtain rfl : a = -1 - (j : Int) := by omega
      have u5 : -1 - (-1 - (j : Int)) = (j : Int) := by omega
      have u6 : j < N := by omega
      have u7 : decide (j < N) = true := by simp; omega
      go_enter Tryz.func50, Tryz.ntmps50
      go_wp2_with fail
      refine (HP.out _ (by exact ext2 w _ _)).mono ?_
      rintro e w' ⟨rfl, rfl⟩
      go_wp2_with fail
      rw [E.out]
      refine bodyPost_ret (v := .agg #[.int .i64 2, .int .i64 t, .int .i64 (-1 - (j : Int)), .int .u64 y, .int .u64 x, .bool true]) (by simp [results, Tryz.results50, go_sem]) rfl ⟨rfl, ?_⟩
      exact (((((((((RS.out.set 2 (.int .i64 (s.clock + 1))).set 4 (.int .i64 2)).set 5 (.int .i64 t)).set 6 (.int .i64 (-1 - (j : Int)))).set 7 (.int .u64 y)).set 8 (.int .u64 x)).set 9 (.bool true)).alloc _).alloc _).done ({ s with pas := s.pas.set j x }.note ⟨2, t, (-1 - (j : Int)), y, x, true⟩ false) rfl rfl rfl
theorem refStore7 (h : IsRMem B w g R pv s) (ok : Sound s.dev) (hc : Calm s) (t a z x : Int) (h0 : -9223372036854775808 ≤ a) (h1 : a < 9223372036854775808) :
    Calls Tryz.prog 50 #[.pointer (some ⟨g, 0, none⟩), .int .i64 2, .int .i64 t, .int .i64 a, .int .u64 z, .int .u64 x] w fun e w' => (∃ u, e = .returned u) ∧ IsRMem B w' g R pv (s.store t a x) ∧ Fr (rfoot g R pv) w w' :=
  (refStore7v h ok hc t a z x h0 h1).mono fun e w' hh => ⟨⟨_, hh.1⟩, hh.2⟩
set_option maxRecDepth 100000 in
set_option maxHeartbeats 2000000 in
theorem refSwap7v (h : IsRMem B w g R pv s) (ok : Sound s.dev) (hc : Calm s) (t a z x : Int) (h0 : -9223372036854775808 ≤ a) (h1 : a < 9223372036854775808) :
    Calls Tryz.prog 50 #[.pointer (some ⟨g, 0, none⟩), .int .i64 3, .int .i64 t, .int .i64 a, .int .u64 z, .int .u64 x] w fun e w' => e = .returned (accV (s.swap t a z x).last) ∧ IsRMem B w' g R pv (s.swap t a z x) ∧ Fr (rfoot g R pv) w w' := by
  have HP := Lib.hid (fun (W : World) (y : Ext w W) => refPeek_ok (h.ext y) ok a h0 h1)
  have HR := Lib.hid (RM.of h)
  have hg : g < w.heap.size := h.blk.lt
  have hg2 : ¬ g = w.heap.size := by omega
  have hg3 : ¬ w.heap.size = g := by omega
  have hg4 : ¬ g = w.heap.size + 1 := by omega
  have hg5 : ¬ w.heap.size + 1 = g := by omega
  obtain ⟨k0, k1, b0, b1⟩ := hc
  have c0 : w.cell? ⟨g, 0, none⟩ = some (.pointer (some ⟨R.g, 0, none⟩)) := h.blk.cell 0
  have c2 : w.cell? ⟨g, 2, none⟩ = some (.int .i64 s.clock) := h.blk.cell 2
  have c3 : w.cell? ⟨g, 3, none⟩ = some (.int .i64 s.bad) := h.blk.cell 3
  have c4 : w.cell? ⟨g, 4, none⟩ = some (.int .i64 s.last.k) := h.blk.cell 4
  have c5 : w.cell? ⟨g, 5, none⟩ = some (.int .i64 s.last.t) := h.blk.cell 5
  have c6 : w.cell? ⟨g, 6, none⟩ = some (.int .i64 s.last.a) := h.blk.cell 6
  have c7 : w.cell? ⟨g, 7, none⟩ = some (.int .u64 s.last.o) := h.blk.cell 7
  have c8 : w.cell? ⟨g, 8, none⟩ = some (.int .u64 s.last.n) := h.blk.cell 8
  have c9 : w.cell? ⟨g, 9, none⟩ = some (.bool s.last.d) := h.blk.cell 9
  have f2 : w.frozen? ⟨g, 2, none⟩ = false := h.blk.frozen 2
  have f3 : w.frozen? ⟨g, 3, none⟩ = false := h.blk.frozen 3
  have f4 : w.frozen? ⟨g, 4, none⟩ = false := h.blk.frozen 4
  have f5 : w.frozen? ⟨g, 5, none⟩ = false := h.blk.frozen 5
  have f6 : w.frozen? ⟨g, 6, none⟩ = false := h.blk.frozen 6
  have f7 : w.frozen? ⟨g, 7, none⟩ = false := h.blk.frozen 7
  have f8 : w.frozen? ⟨g, 8, none⟩ = false := h.blk.frozen 8
  have f9 : w.frozen? ⟨g, 9, none⟩ = false := h.blk.frozen 9
  cases hp : peekB s a
  · rw [hp] at HP
    have E := Lib.hid (show s.swap t a z x = s.note ⟨3, t, a, 0, x, false⟩ true by unfold MSt.swap; rw [hp]; rfl)
    have E2 := Lib.hid (peekV_no hp)
    rw [E2.out] at HP
    clear h ok hp
    go_enter Tryz.func50, Tryz.ntmps50
    go_wp2_with fail
    refine (HP.out _ (by exact ext2 w _ _)).mono ?_
    rintro e w' ⟨rfl, rfl⟩
    go_wp2_with fail
    rw [E.out]
    refine bodyPost_ret (v := .agg #[.int .i64 3, .int .i64 t, .int .i64 a, .int .u64 0, .int .u64 x, .bool false]) (by simp [results, Tryz.results50, go_sem]) rfl ⟨rfl, ?_⟩
    exact ((((((((((HR.out.set 2 (.int .i64 (s.clock + 1))).set 3 (.int .i64 (s.bad + 1))).set 4 (.int .i64 3)).set 5 (.int .i64 t)).set 6 (.int .i64 a)).set 7 (.int .u64 0)).set 8 (.int .u64 x)).set 9 (.bool false)).alloc _).alloc _).done (s.note ⟨3, t, a, 0, x, false⟩ true) rfl rfl rfl
  · rw [hp] at HP
    by_cases hy : peekV s a = z
    · have E := Lib.hid (show s.swap t a z x = (s.put a x).note ⟨3, t, a, peekV s a, x, true⟩ false by unfold MSt.swap; rw [if_pos hp, if_pos hy])
      have hyz : (peekV s a == z) = true := by simp [hy]
      have hyd : decide (peekV s a = z) = true := by simp [hy]
      generalize peekV s a = y at *
      subst hy
      by_cases ha : 0 ≤ a
      · obtain ⟨gk, ck, gs, cs, gf, cf, e1, e2, e3⟩ := h.dev.sh ok.n0 ok.T0
        have d1 : w.cell? ⟨R.g, 1, none⟩ = some (.slice (some ⟨gs, 0, none⟩) (s.dev.n * 8) cs) := by rw [← e2]; exact h.dev.is.blk.cell 1
        have hsl := h.dev.ls
        have hl : a < (s.dev.n : Int) * 8 := by unfold peekB at hp; rw [if_pos ha] at hp; simpa using hp
        obtain ⟨p, rfl⟩ := Int.eq_ofNat_of_zero_le ha
        have hpl : p < s.dev.n * 8 := by omega
        have hsr : RowN w B 45 1 .u64 (.slice (some ⟨gs, 0, none⟩) (s.dev.n * 8) cs) (s.dev.n * 8) s.dev.seen := by have := RowN.of_row h.dev.is.seen; rw [e2, hsl] at this; exact this
        have hcp : w.cell? ⟨gs, p, none⟩ = some (.int .u64 (s.dev.seen.getD p 0)) := RowN.cell hsr (by omega)
        have hfp : w.frozen? ⟨gs, p, none⟩ = false := RowN.frozen hsr p
        have hgs : gs < w.heap.size := (World.ownsRow.lt hsr gs rfl).2
        have hRg : R.g < w.heap.size := h.dev.is.blk.lt
        have hRg2 : ¬ R.g = w.heap.size := by omega
        have hRg3 : ¬ R.g = w.heap.size + 1 := by omega
        have q1 : ¬ gs = w.heap.size := by omega
        have q2 : ¬ gs = w.heap.size + 1 := by omega
        have q3 : ¬ w.heap.size = gs := by omega
        have q4 : ¬ w.heap.size + 1 = gs := by omega
        have q5 : ¬ gs = g := fun e => HR.out.off.1 (Or.inr (Or.inr (Or.inl (by rw [e2, ← e]; rfl))))
        have q6 : ¬ g = gs := fun e => q5 e.symm
        have ES := Lib.hid (show s.put (p : Int) x = { s with dev := { s.dev with seen := s.dev.seen.set p x } } by unfold MSt.put DSt.store; rw [if_pos ha, if_pos ⟨ha, hl⟩]; rfl)
        have RS := Lib.hid (HR.out.seenTo ok.n0 e2 p x)
        rw [ES.out] at E
        generalize s.dev.seen.getD p 0 = yy at *
        clear h hsl e1 e2 e3 ha hp hsr ok HR
        generalize hL : s.dev.n * 8 = L at *
        clear hl hL h0 h1
        go_enter Tryz.func50, Tryz.ntmps50
        go_wp2_with fail
        refine (HP.out _ (by exact ext2 w _ _)).mono ?_
        rintro e w' ⟨rfl, rfl⟩
        go_wp2_with fail
        rw [E.out]
        refine bodyPost_ret (v := .agg #[.int .i64 3, .int .i64 t, .int .i64 (p : Int), .int .u64 y, .int .u64 x, .bool true]) (by simp [results, Tryz.results50, go_sem]) rfl ⟨rfl, ?_⟩
        exact (((((((((RS.out.set 2 (.int .i64 (s.clock + 1))).set 4 (.int .i64 3)).set 5 (.int .i64 t)).set 6 (.int .i64 (p : Int))).set 7 (.int .u64 y)).set 8 (.int .u64 x)).set 9 (.bool true)).alloc _).alloc _).done ({ s with dev := { s.dev with seen := s.dev.seen.set p x } }.note ⟨3, t, (p : Int), y, x, true⟩ false) rfl rfl rfl
      · have hn : a < 0 := by omega
        have hl : -1 - a < (s.pas.length : Int) := by unfold peekB at hp; rw [if_neg ha] at hp; simpa using hp
        obtain ⟨j, hj⟩ := Int.eq_ofNat_of_zero_le (show 0 ≤ -1 - a by omega)
        obtain ⟨gp, c, e, _, _, _, hgl⟩ := (RowN.of_row h.pas).at_ (by omega)
        have c1 : w.cell? ⟨g, 1, none⟩ = some pv := h.blk.cell 1
        rw [e] at c1
        have hcl : w.cell? ⟨gp, j, none⟩ = some (.int .u64 (s.pas.getD j 0)) := RowN.cell (by rw [← e]; exact RowN.of_row h.pas) (by omega)
        have hfp : w.frozen? ⟨gp, j, none⟩ = false := RowN.frozen (by rw [← e]; exact RowN.of_row h.pas) j
        have q1 : ¬ gp = w.heap.size := by omega
        have q2 : ¬ gp = w.heap.size + 1 := by omega
        have q3 : ¬ w.heap.size = gp := by omega
        have q4 : ¬ w.heap.size + 1 = gp := by omega
        have q5 : ¬ gp = g := fun e5 => HR.out.off.2.1 (by rw [e, ← e5]; rfl)
        have q6 : ¬ g = gp := fun e => q5 e.symm
        have ES := Lib.hid (show s.put a x = { s with pas := s.pas.set j x } by unfold MSt.put; rw [if_neg ha, hj]; rfl)
        have RS := Lib.hid (HR.out.pasTo e j x)
        rw [ES.out] at E
        generalize s.pas.getD j 0 = yy at *
        have EE := Lib.hid e
        clear h e hp ok HR
        generalize hN : s.pas.length = N at *
        obtain rfl : a = -1 - (j : Int) := by omega
        have u5 : -1 - (-1 - (j : Int)) = (j : Int) := by omega
        have u6 : j < N := by omega
        have u7 : decide (j < N) = true := by simp; omega
        go_enter Tryz.func50, Tryz.ntmps50
        go_wp2_with fail
        refine (HP.out _ (by exact ext2 w _ _)).mono ?_
        rintro e w' ⟨rfl, rfl⟩
        go_wp2_with fail
        rw [E.out]
        refine bodyPost_ret (v := .agg #[.int .i64 3, .int .i64 t, .int .i64 (-1 - (j : Int)), .int .u64 y, .int .u64 x, .bool true]) (by simp [results, Tryz.results50, go_sem]) rfl ⟨rfl, ?_⟩
        exact (((((((((RS.out.set 2 (.int .i64 (s.clock + 1))).set 4 (.int .i64 3)).set 5 (.int .i64 t)).set 6 (.int .i64 (-1 - (j : Int)))).set 7 (.int .u64 y)).set 8 (.int .u64 x)).set 9 (.bool true)).alloc _).alloc _).done ({ s with pas := s.pas.set j x }.note ⟨3, t, (-1 - (j : Int)), y, x, true⟩ false) rfl rfl rfl
    · have E := Lib.hid (show s.swap t a z x = s.note ⟨3, t, a, peekV s a, x, false⟩ false by unfold MSt.swap; rw [if_pos hp, if_neg hy])
      have hyz : (peekV s a == z) = false := by simp [hy]
      have hyd : decide (peekV s a = z) = false := by simp [hy]
      generalize peekV s a = y at *
      clear h ok hp
      go_enter Tryz.func50, Tryz.ntmps50
      go_wp2_with fail
      refine (HP.out _ (by exact ext2 w _ _)).mono ?_
      rintro e w' ⟨rfl, rfl⟩
      go_wp2_with fail
      rw [E.out]
      refine bodyPost_ret (v := .agg #[.int .i64 3, .int .i64 t, .int .i64 a, .int .u64 y, .int .u64 x, .bool false]) (by simp [results, Tryz.results50, go_sem]) rfl ⟨rfl, ?_⟩
      exact (((((((((HR.out.set 2 (.int .i64 (s.clock + 1))).set 4 (.int .i64 3)).set 5 (.int .i64 t)).set 6 (.int .i64 a)).set 7 (.int .u64 y)).set 8 (.int .u64 x)).set 9 (.bool false)).alloc _).alloc _).done (s.note ⟨3, t, a, y, x, false⟩ false) rfl rfl rfl
theorem refSwap7 (h : IsRMem B w g R pv s) (ok : Sound s.dev) (hc : Calm s) (t a z x : Int) (h0 : -9223372036854775808 ≤ a) (h1 : a < 9223372036854775808) :
    Calls Tryz.prog 50 #[.pointer (some ⟨g, 0, none⟩), .int .i64 3, .int .i64 t, .int .i64 a, .int .u64 z, .int .u64 x] w fun e w' => (∃ u, e = .returned u) ∧ IsRMem B w' g R pv (s.swap t a z x) ∧ Fr (rfoot g R pv) w w' :=
  (refSwap7v h ok hc t a z x h0 h1).mono fun e w' hh => ⟨⟨_, hh.1⟩, hh.2⟩
end
end Go.Proofs.YtbicloceaddinaaGreat


/- The document's memory: Do of a flush and a fence; Crash. Conditions: those that each theorem names. -/
namespace Go.Proofs.YtbicloceaddinaaGreat
open Go.ChangeShapes Go.WideShapes Go.ChangeAt Go.RowKit
set_option linter.unusedVariables false
section
variable {B g : Nat} {w : World} {R : RefB} {pv : Value} {s : MSt}
set_option maxRecDepth 100000 in
set_option maxHeartbeats 2000000 in
theorem refFence7 (h : IsRMem B w g R pv s) (ok : Sound s.dev) {i : Nat} (hi : i ≤ 1000) (fine : Fine i s.dev) (hc : Calm s) (t a z x : Int) (h0 : -9223372036854775808 ≤ a) (h1 : a < 9223372036854775808) :
    Calls Tryz.prog 50 #[.pointer (some ⟨g, 0, none⟩), .int .i64 5, .int .i64 t, .int .i64 a, .int .u64 z, .int .u64 x] w fun e w' => (∃ u, e = .returned u) ∧ IsRMem B w' g R pv (s.fence t) ∧ Fr (rfoot g R pv) w w' := by
  have HP := Lib.hid (fun (W : World) (y : Ext w W) => refPeek_ok (h.ext y) ok a h0 h1)
  have HR := Lib.hid (RM.of h)
  have hg : g < w.heap.size := h.blk.lt
  have hg2 : ¬ g = w.heap.size := by omega
  have hg3 : ¬ w.heap.size = g := by omega
  have hg4 : ¬ g = w.heap.size + 1 := by omega
  have hg5 : ¬ w.heap.size + 1 = g := by omega
  obtain ⟨k0, k1, b0, b1⟩ := hc
  have c0 : w.cell? ⟨g, 0, none⟩ = some (.pointer (some ⟨R.g, 0, none⟩)) := h.blk.cell 0
  have c2 : w.cell? ⟨g, 2, none⟩ = some (.int .i64 s.clock) := h.blk.cell 2
  have c3 : w.cell? ⟨g, 3, none⟩ = some (.int .i64 s.bad) := h.blk.cell 3
  have c4 : w.cell? ⟨g, 4, none⟩ = some (.int .i64 s.last.k) := h.blk.cell 4
  have c5 : w.cell? ⟨g, 5, none⟩ = some (.int .i64 s.last.t) := h.blk.cell 5
  have c6 : w.cell? ⟨g, 6, none⟩ = some (.int .i64 s.last.a) := h.blk.cell 6
  have c7 : w.cell? ⟨g, 7, none⟩ = some (.int .u64 s.last.o) := h.blk.cell 7
  have c8 : w.cell? ⟨g, 8, none⟩ = some (.int .u64 s.last.n) := h.blk.cell 8
  have c9 : w.cell? ⟨g, 9, none⟩ = some (.bool s.last.d) := h.blk.cell 9
  have f2 : w.frozen? ⟨g, 2, none⟩ = false := h.blk.frozen 2
  have f3 : w.frozen? ⟨g, 3, none⟩ = false := h.blk.frozen 3
  have f4 : w.frozen? ⟨g, 4, none⟩ = false := h.blk.frozen 4
  have f5 : w.frozen? ⟨g, 5, none⟩ = false := h.blk.frozen 5
  have f6 : w.frozen? ⟨g, 6, none⟩ = false := h.blk.frozen 6
  have f7 : w.frozen? ⟨g, 7, none⟩ = false := h.blk.frozen 7
  have f8 : w.frozen? ⟨g, 8, none⟩ = false := h.blk.frozen 8
  have f9 : w.frozen? ⟨g, 9, none⟩ = false := h.blk.frozen 9
  have HD := Lib.hid (fun (W : World) (y : Ext w W) => (h.dev.ext y).fenceR ok hi fine t 0)
  have E := Lib.hid (show s.fence t = (s.withDev (s.dev.fence t)).note ⟨5, t, 0, 0, 0, (fenceE s.dev t == 0)⟩ (!(fenceE s.dev t == 0)) from rfl)
  generalize peekV s a = y at *
  generalize peekB s a = pb at *
  generalize fenceE s.dev t = er at *
  clear h ok fine
  unfold RefB.ptr at HD
  go_enter Tryz.func50, Tryz.ntmps50
  go_wp2_with fail
  refine (HP.out _ (by exact ext2 w _ _)).mono ?_
  rintro e w' ⟨rfl, rfl⟩
  go_wp2_with fail
  refine (HD.out _ (by exact ext2 w _ _)).mono ?_
  rintro e w1 ⟨rfl, r1, f1⟩
  have R1 := Lib.hid (((HR.out.alloc (.cells #[.int .i64 0, .int .i64 0, .int .i64 0, .int .u64 0, .int .u64 0, .bool false] 116)).alloc (.cells #[.int .i64 5, .int .i64 t, .int .i64 0, .int .u64 0, .int .u64 0, .bool false] 116)).devTo r1 f1)
  have lA : Blk w1 w.heap.size 116 [.int .i64 0, .int .i64 0, .int .i64 0, .int .u64 0, .int .u64 0, .bool false] := ((Blk.new w _ [.int .i64 0, .int .i64 0, .int .i64 0, .int .u64 0, .int .u64 0, .bool false]).ext ((Ext.refl _).alloc (.cells #[.int .i64 5, .int .i64 t, .int .i64 0, .int .u64 0, .int .u64 0, .bool false] 116))).fr f1 (fun hf => by have := HR.out.lo _ (Or.inr (Or.inr hf)); omega)
  have lB : Blk w1 (w.heap.size + 1) 116 [.int .i64 5, .int .i64 t, .int .i64 0, .int .u64 0, .int .u64 0, .bool false] := by
    have hb := Blk.new (w.alloc (.cells #[.int .i64 0, .int .i64 0, .int .i64 0, .int .u64 0, .int .u64 0, .bool false] 116)) 116 [.int .i64 5, .int .i64 t, .int .i64 0, .int .u64 0, .int .u64 0, .bool false]
    rw [show (w.alloc (.cells #[.int .i64 0, .int .i64 0, .int .i64 0, .int .u64 0, .int .u64 0, .bool false] 116)).heap.size = w.heap.size + 1 by simp] at hb
    exact hb.fr f1 (fun hf => by have := HR.out.lo _ (Or.inr (Or.inr hf)); omega)
  have s5 : ¬ w.heap.size = w.heap.size + 1 := by omega
  have s6 : ¬ w.heap.size + 1 = w.heap.size := by omega
  clear r1 f1 HP HD HR h0 h1 c0 c2 c3 c4 c5 c6 c7 c8 c9 f2 f3 f4 f5 f6 f7 f8 f9
  obtain ⟨gb, hgb⟩ : ∃ b, w.heap.size + 1 = b := ⟨_, rfl⟩
  obtain ⟨ga, hga⟩ : ∃ b, w.heap.size = b := ⟨_, rfl⟩
  rw [hgb] at lB s5 s6 hg4 hg5 ⊢
  rw [hga] at lA s5 s6 hg2 hg3 ⊢
  have HGA := Lib.hid hga
  have HGB := Lib.hid hgb
  clear hga hgb hg
  have kB5 : w1.cell? ⟨gb, 5, none⟩ = some (.bool false) := lB.cell 5
  have fB5 : w1.frozen? ⟨gb, 5, none⟩ = false := lB.frozen 5
  have LA1 := Lib.hid lA
  have LB1 := Lib.hid lB
  clear lA lB
  go_upto_region 19 with fail
  have R2 := Lib.hid (R1.out.loc (p := ⟨gb, 5, none⟩) (by have := HGB.out; show w.heap.size ≤ gb; omega) (.bool (er == 0)))
  have LA2 : Hid (Blk (w1.setCell ⟨gb, 5, none⟩ (.bool (er == 0))) ga 116 [.int .i64 0, .int .i64 0, .int .i64 0, .int .u64 0, .int .u64 0, .bool false]) := Lib.hid (LA1.out.far (p := ⟨gb, 5, none⟩) s5 _)
  have LB2 : Hid (Blk (w1.setCell ⟨gb, 5, none⟩ (.bool (er == 0))) gb 116 [.int .i64 5, .int .i64 t, .int .i64 0, .int .u64 0, .int .u64 0, .bool (er == 0)]) := Lib.hid (LB1.out.set 5 (.bool (er == 0)))
  clear kB5 fB5 R1 LA1 LB1
  generalize w1.setCell ⟨gb, 5, none⟩ (.bool (er == 0)) = W2 at *
  generalize (er == 0) = b at *
  cases b
  · have hbl := R2.out.blk
    unfold memCells at hbl
    have v2 : W2.cell? ⟨g, 2, none⟩ = some (.int .i64 s.clock) := hbl.cell 2
    have z2 : W2.frozen? ⟨g, 2, none⟩ = false := hbl.frozen 2
    have v3 : W2.cell? ⟨g, 3, none⟩ = some (.int .i64 s.bad) := hbl.cell 3
    have z3 : W2.frozen? ⟨g, 3, none⟩ = false := hbl.frozen 3
    clear hbl
    go_upto_region 22 with fail
    have R3 := Lib.hid ((R2.out.set 2 (.int .i64 (s.clock + 1))).set 3 (.int .i64 (s.bad + 1)))
    have LA3 : Hid (Blk ((W2.setCell ⟨g, 2, none⟩ (.int .i64 (s.clock + 1))).setCell ⟨g, 3, none⟩ (.int .i64 (s.bad + 1))) ga 116 [.int .i64 0, .int .i64 0, .int .i64 0, .int .u64 0, .int .u64 0, .bool false]) := Lib.hid ((LA2.out.far (p := ⟨g, _, none⟩) hg3 _).far (p := ⟨g, _, none⟩) hg3 _)
    have LB3 : Hid (Blk ((W2.setCell ⟨g, 2, none⟩ (.int .i64 (s.clock + 1))).setCell ⟨g, 3, none⟩ (.int .i64 (s.bad + 1))) gb 116 [.int .i64 5, .int .i64 t, .int .i64 0, .int .u64 0, .int .u64 0, .bool false]) := Lib.hid ((LB2.out.far (p := ⟨g, _, none⟩) hg5 _).far (p := ⟨g, _, none⟩) hg5 _)
    clear v2 v3 z2 z3 R2 LA2 LB2
    generalize ((W2.setCell ⟨g, 2, none⟩ (.int .i64 (s.clock + 1))).setCell ⟨g, 3, none⟩ (.int .i64 (s.bad + 1))) = W3 at *
    have hbl := R3.out.blk
    unfold memCells at hbl
    have v4 : W3.cell? ⟨g, 4, none⟩ = some (.int .i64 s.last.k) := hbl.cell 4
    have z4 : W3.frozen? ⟨g, 4, none⟩ = false := hbl.frozen 4
    have v5 : W3.cell? ⟨g, 5, none⟩ = some (.int .i64 s.last.t) := hbl.cell 5
    have z5 : W3.frozen? ⟨g, 5, none⟩ = false := hbl.frozen 5
    have v6 : W3.cell? ⟨g, 6, none⟩ = some (.int .i64 s.last.a) := hbl.cell 6
    have z6 : W3.frozen? ⟨g, 6, none⟩ = false := hbl.frozen 6
    have v7 : W3.cell? ⟨g, 7, none⟩ = some (.int .u64 s.last.o) := hbl.cell 7
    have z7 : W3.frozen? ⟨g, 7, none⟩ = false := hbl.frozen 7
    have v8 : W3.cell? ⟨g, 8, none⟩ = some (.int .u64 s.last.n) := hbl.cell 8
    have z8 : W3.frozen? ⟨g, 8, none⟩ = false := hbl.frozen 8
    have v9 : W3.cell? ⟨g, 9, none⟩ = some (.bool s.last.d) := hbl.cell 9
    have z9 : W3.frozen? ⟨g, 9, none⟩ = false := hbl.frozen 9
    clear hbl
    have lBc0 : W3.cell? ⟨gb, 0, none⟩ = some (.int .i64 5) := LB3.out.cell 0
    have lBc1 : W3.cell? ⟨gb, 1, none⟩ = some (.int .i64 t) := LB3.out.cell 1
    have lBc2 : W3.cell? ⟨gb, 2, none⟩ = some (.int .i64 0) := LB3.out.cell 2
    have lBc3 : W3.cell? ⟨gb, 3, none⟩ = some (.int .u64 0) := LB3.out.cell 3
    have lBc4 : W3.cell? ⟨gb, 4, none⟩ = some (.int .u64 0) := LB3.out.cell 4
    have lBc5 : W3.cell? ⟨gb, 5, none⟩ = some (.bool false) := LB3.out.cell 5
    go_upto_region 23 with fail
    have R4 := Lib.hid ((((((R3.out.set 4 (.int .i64 5)).set 5 (.int .i64 t)).set 6 (.int .i64 0)).set 7 (.int .u64 0)).set 8 (.int .u64 0)).set 9 (.bool false))
    have LA4 : Hid (Blk ((((((W3.setCell ⟨g, 4, none⟩ (.int .i64 5)).setCell ⟨g, 5, none⟩ (.int .i64 t)).setCell ⟨g, 6, none⟩ (.int .i64 0)).setCell ⟨g, 7, none⟩ (.int .u64 0)).setCell ⟨g, 8, none⟩ (.int .u64 0)).setCell ⟨g, 9, none⟩ (.bool false)) ga 116 [.int .i64 0, .int .i64 0, .int .i64 0, .int .u64 0, .int .u64 0, .bool false]) := Lib.hid ((((((LA3.out.far (p := ⟨g, _, none⟩) hg3 _).far (p := ⟨g, _, none⟩) hg3 _).far (p := ⟨g, _, none⟩) hg3 _).far (p := ⟨g, _, none⟩) hg3 _).far (p := ⟨g, _, none⟩) hg3 _).far (p := ⟨g, _, none⟩) hg3 _)
    have LB4 : Hid (Blk ((((((W3.setCell ⟨g, 4, none⟩ (.int .i64 5)).setCell ⟨g, 5, none⟩ (.int .i64 t)).setCell ⟨g, 6, none⟩ (.int .i64 0)).setCell ⟨g, 7, none⟩ (.int .u64 0)).setCell ⟨g, 8, none⟩ (.int .u64 0)).setCell ⟨g, 9, none⟩ (.bool false)) gb 116 [.int .i64 5, .int .i64 t, .int .i64 0, .int .u64 0, .int .u64 0, .bool false]) := Lib.hid ((((((LB3.out.far (p := ⟨g, _, none⟩) hg5 _).far (p := ⟨g, _, none⟩) hg5 _).far (p := ⟨g, _, none⟩) hg5 _).far (p := ⟨g, _, none⟩) hg5 _).far (p := ⟨g, _, none⟩) hg5 _).far (p := ⟨g, _, none⟩) hg5 _)
    clear v4 v5 v6 v7 v8 v9 z4 z5 z6 z7 z8 z9 R3 LA3 LB3
    clear lBc0 lBc1 lBc2 lBc3 lBc4 lBc5
    generalize ((((((W3.setCell ⟨g, 4, none⟩ (.int .i64 5)).setCell ⟨g, 5, none⟩ (.int .i64 t)).setCell ⟨g, 6, none⟩ (.int .i64 0)).setCell ⟨g, 7, none⟩ (.int .u64 0)).setCell ⟨g, 8, none⟩ (.int .u64 0)).setCell ⟨g, 9, none⟩ (.bool false)) = W4 at *
    have lBc0 : W4.cell? ⟨gb, 0, none⟩ = some (.int .i64 5) := LB4.out.cell 0
    have lBc1 : W4.cell? ⟨gb, 1, none⟩ = some (.int .i64 t) := LB4.out.cell 1
    have lBc2 : W4.cell? ⟨gb, 2, none⟩ = some (.int .i64 0) := LB4.out.cell 2
    have lBc3 : W4.cell? ⟨gb, 3, none⟩ = some (.int .u64 0) := LB4.out.cell 3
    have lBc4 : W4.cell? ⟨gb, 4, none⟩ = some (.int .u64 0) := LB4.out.cell 4
    have lBc5 : W4.cell? ⟨gb, 5, none⟩ = some (.bool false) := LB4.out.cell 5
    have lAc0 : W4.cell? ⟨ga, 0, none⟩ = some (.int .i64 0) := LA4.out.cell 0
    have lAf0 : W4.frozen? ⟨ga, 0, none⟩ = false := LA4.out.frozen 0
    have lAc1 : W4.cell? ⟨ga, 1, none⟩ = some (.int .i64 0) := LA4.out.cell 1
    have lAf1 : W4.frozen? ⟨ga, 1, none⟩ = false := LA4.out.frozen 1
    have lAc2 : W4.cell? ⟨ga, 2, none⟩ = some (.int .i64 0) := LA4.out.cell 2
    have lAf2 : W4.frozen? ⟨ga, 2, none⟩ = false := LA4.out.frozen 2
    have lAc3 : W4.cell? ⟨ga, 3, none⟩ = some (.int .u64 0) := LA4.out.cell 3
    have lAf3 : W4.frozen? ⟨ga, 3, none⟩ = false := LA4.out.frozen 3
    have lAc4 : W4.cell? ⟨ga, 4, none⟩ = some (.int .u64 0) := LA4.out.cell 4
    have lAf4 : W4.frozen? ⟨ga, 4, none⟩ = false := LA4.out.frozen 4
    have lAc5 : W4.cell? ⟨ga, 5, none⟩ = some (.bool false) := LA4.out.cell 5
    have lAf5 : W4.frozen? ⟨ga, 5, none⟩ = false := LA4.out.frozen 5
    go_wp2_with fail
    rw [E.out]
    have R5 := Lib.hid ((((((R4.out.loc (p := ⟨ga, 0, none⟩) (Nat.le_of_eq HGA.out) (.int .i64 5)).loc (p := ⟨ga, 1, none⟩) (Nat.le_of_eq HGA.out) (.int .i64 t)).loc (p := ⟨ga, 2, none⟩) (Nat.le_of_eq HGA.out) (.int .i64 0)).loc (p := ⟨ga, 3, none⟩) (Nat.le_of_eq HGA.out) (.int .u64 0)).loc (p := ⟨ga, 4, none⟩) (Nat.le_of_eq HGA.out) (.int .u64 0)).loc (p := ⟨ga, 5, none⟩) (Nat.le_of_eq HGA.out) (.bool false))
    have L5 : Blk ((((((W4.setCell ⟨ga, 0, none⟩ (.int .i64 5)).setCell ⟨ga, 1, none⟩ (.int .i64 t)).setCell ⟨ga, 2, none⟩ (.int .i64 0)).setCell ⟨ga, 3, none⟩ (.int .u64 0)).setCell ⟨ga, 4, none⟩ (.int .u64 0)).setCell ⟨ga, 5, none⟩ (.bool false)) ga 116 [.int .i64 5, .int .i64 t, .int .i64 0, .int .u64 0, .int .u64 0, .bool false] := ((((((LA4.out.set 0 (.int .i64 5)).set 1 (.int .i64 t)).set 2 (.int .i64 0)).set 3 (.int .u64 0)).set 4 (.int .u64 0)).set 5 (.bool false))
    generalize ((((((W4.setCell ⟨ga, 0, none⟩ (.int .i64 5)).setCell ⟨ga, 1, none⟩ (.int .i64 t)).setCell ⟨ga, 2, none⟩ (.int .i64 0)).setCell ⟨ga, 3, none⟩ (.int .u64 0)).setCell ⟨ga, 4, none⟩ (.int .u64 0)).setCell ⟨ga, 5, none⟩ (.bool false)) = W5 at *
    have y0 : W5.cell? ⟨ga, 0, none⟩ = some (.int .i64 5) := L5.cell 0
    have y1 : W5.cell? ⟨ga, 1, none⟩ = some (.int .i64 t) := L5.cell 1
    have y2 : W5.cell? ⟨ga, 2, none⟩ = some (.int .i64 0) := L5.cell 2
    have y3 : W5.cell? ⟨ga, 3, none⟩ = some (.int .u64 0) := L5.cell 3
    have y4 : W5.cell? ⟨ga, 4, none⟩ = some (.int .u64 0) := L5.cell 4
    have y5 : W5.cell? ⟨ga, 5, none⟩ = some (.bool false) := L5.cell 5
    refine bodyPost_ret (v := .agg #[.int .i64 5, .int .i64 t, .int .i64 0, .int .u64 0, .int .u64 0, .bool false]) (by simp [results, Tryz.results50, go_sem, y0, y1, y2, y3, y4, y5]) rfl ⟨⟨_, rfl⟩, ?_⟩
    exact R5.out.done ((s.withDev (s.dev.fence t)).note ⟨5, t, 0, 0, 0, false⟩ true) rfl rfl rfl
  · have hbl := R2.out.blk
    unfold memCells at hbl
    have v2 : W2.cell? ⟨g, 2, none⟩ = some (.int .i64 s.clock) := hbl.cell 2
    have z2 : W2.frozen? ⟨g, 2, none⟩ = false := hbl.frozen 2
    have v3 : W2.cell? ⟨g, 3, none⟩ = some (.int .i64 s.bad) := hbl.cell 3
    have z3 : W2.frozen? ⟨g, 3, none⟩ = false := hbl.frozen 3
    clear hbl
    go_upto_region 22 with fail
    have R3 := Lib.hid (R2.out.set 2 (.int .i64 (s.clock + 1)))
    have LA3 : Hid (Blk (W2.setCell ⟨g, 2, none⟩ (.int .i64 (s.clock + 1))) ga 116 [.int .i64 0, .int .i64 0, .int .i64 0, .int .u64 0, .int .u64 0, .bool false]) := Lib.hid (LA2.out.far (p := ⟨g, _, none⟩) hg3 _)
    have LB3 : Hid (Blk (W2.setCell ⟨g, 2, none⟩ (.int .i64 (s.clock + 1))) gb 116 [.int .i64 5, .int .i64 t, .int .i64 0, .int .u64 0, .int .u64 0, .bool true]) := Lib.hid (LB2.out.far (p := ⟨g, _, none⟩) hg5 _)
    clear v2 v3 z2 z3 R2 LA2 LB2
    generalize (W2.setCell ⟨g, 2, none⟩ (.int .i64 (s.clock + 1))) = W3 at *
    have hbl := R3.out.blk
    unfold memCells at hbl
    have v4 : W3.cell? ⟨g, 4, none⟩ = some (.int .i64 s.last.k) := hbl.cell 4
    have z4 : W3.frozen? ⟨g, 4, none⟩ = false := hbl.frozen 4
    have v5 : W3.cell? ⟨g, 5, none⟩ = some (.int .i64 s.last.t) := hbl.cell 5
    have z5 : W3.frozen? ⟨g, 5, none⟩ = false := hbl.frozen 5
    have v6 : W3.cell? ⟨g, 6, none⟩ = some (.int .i64 s.last.a) := hbl.cell 6
    have z6 : W3.frozen? ⟨g, 6, none⟩ = false := hbl.frozen 6
    have v7 : W3.cell? ⟨g, 7, none⟩ = some (.int .u64 s.last.o) := hbl.cell 7
    have z7 : W3.frozen? ⟨g, 7, none⟩ = false := hbl.frozen 7
    have v8 : W3.cell? ⟨g, 8, none⟩ = some (.int .u64 s.last.n) := hbl.cell 8
    have z8 : W3.frozen? ⟨g, 8, none⟩ = false := hbl.frozen 8
    have v9 : W3.cell? ⟨g, 9, none⟩ = some (.bool s.last.d) := hbl.cell 9
    have z9 : W3.frozen? ⟨g, 9, none⟩ = false := hbl.frozen 9
    clear hbl
    have lBc0 : W3.cell? ⟨gb, 0, none⟩ = some (.int .i64 5) := LB3.out.cell 0
    have lBc1 : W3.cell? ⟨gb, 1, none⟩ = some (.int .i64 t) := LB3.out.cell 1
    have lBc2 : W3.cell? ⟨gb, 2, none⟩ = some (.int .i64 0) := LB3.out.cell 2
    have lBc3 : W3.cell? ⟨gb, 3, none⟩ = some (.int .u64 0) := LB3.out.cell 3
    have lBc4 : W3.cell? ⟨gb, 4, none⟩ = some (.int .u64 0) := LB3.out.cell 4
    have lBc5 : W3.cell? ⟨gb, 5, none⟩ = some (.bool true) := LB3.out.cell 5
    go_upto_region 23 with fail
    have R4 := Lib.hid ((((((R3.out.set 4 (.int .i64 5)).set 5 (.int .i64 t)).set 6 (.int .i64 0)).set 7 (.int .u64 0)).set 8 (.int .u64 0)).set 9 (.bool true))
    have LA4 : Hid (Blk ((((((W3.setCell ⟨g, 4, none⟩ (.int .i64 5)).setCell ⟨g, 5, none⟩ (.int .i64 t)).setCell ⟨g, 6, none⟩ (.int .i64 0)).setCell ⟨g, 7, none⟩ (.int .u64 0)).setCell ⟨g, 8, none⟩ (.int .u64 0)).setCell ⟨g, 9, none⟩ (.bool true)) ga 116 [.int .i64 0, .int .i64 0, .int .i64 0, .int .u64 0, .int .u64 0, .bool false]) := Lib.hid ((((((LA3.out.far (p := ⟨g, _, none⟩) hg3 _).far (p := ⟨g, _, none⟩) hg3 _).far (p := ⟨g, _, none⟩) hg3 _).far (p := ⟨g, _, none⟩) hg3 _).far (p := ⟨g, _, none⟩) hg3 _).far (p := ⟨g, _, none⟩) hg3 _)
    have LB4 : Hid (Blk ((((((W3.setCell ⟨g, 4, none⟩ (.int .i64 5)).setCell ⟨g, 5, none⟩ (.int .i64 t)).setCell ⟨g, 6, none⟩ (.int .i64 0)).setCell ⟨g, 7, none⟩ (.int .u64 0)).setCell ⟨g, 8, none⟩ (.int .u64 0)).setCell ⟨g, 9, none⟩ (.bool true)) gb 116 [.int .i64 5, .int .i64 t, .int .i64 0, .int .u64 0, .int .u64 0, .bool true]) := Lib.hid ((((((LB3.out.far (p := ⟨g, _, none⟩) hg5 _).far (p := ⟨g, _, none⟩) hg5 _).far (p := ⟨g, _, none⟩) hg5 _).far (p := ⟨g, _, none⟩) hg5 _).far (p := ⟨g, _, none⟩) hg5 _).far (p := ⟨g, _, none⟩) hg5 _)
    clear v4 v5 v6 v7 v8 v9 z4 z5 z6 z7 z8 z9 R3 LA3 LB3
    clear lBc0 lBc1 lBc2 lBc3 lBc4 lBc5
    generalize ((((((W3.setCell ⟨g, 4, none⟩ (.int .i64 5)).setCell ⟨g, 5, none⟩ (.int .i64 t)).setCell ⟨g, 6, none⟩ (.int .i64 0)).setCell ⟨g, 7, none⟩ (.int .u64 0)).setCell ⟨g, 8, none⟩ (.int .u64 0)).setCell ⟨g, 9, none⟩ (.bool true)) = W4 at *
    have lBc0 : W4.cell? ⟨gb, 0, none⟩ = some (.int .i64 5) := LB4.out.cell 0
    have lBc1 : W4.cell? ⟨gb, 1, none⟩ = some (.int .i64 t) := LB4.out.cell 1
    have lBc2 : W4.cell? ⟨gb, 2, none⟩ = some (.int .i64 0) := LB4.out.cell 2
    have lBc3 : W4.cell? ⟨gb, 3, none⟩ = some (.int .u64 0) := LB4.out.cell 3
    have lBc4 : W4.cell? ⟨gb, 4, none⟩ = some (.int .u64 0) := LB4.out.cell 4
    have lBc5 : W4.cell? ⟨gb, 5, none⟩ = some (.bool true) := LB4.out.cell 5
    have lAc0 : W4.cell? ⟨ga, 0, none⟩ = some (.int .i64 0) := LA4.out.cell 0
    have lAf0 : W4.frozen? ⟨ga, 0, none⟩ = false := LA4.out.frozen 0
    have lAc1 : W4.cell? ⟨ga, 1, none⟩ = some (.int .i64 0) := LA4.out.cell 1
    have lAf1 : W4.frozen? ⟨ga, 1, none⟩ = false := LA4.out.frozen 1
    have lAc2 : W4.cell? ⟨ga, 2, none⟩ = some (.int .i64 0) := LA4.out.cell 2
    have lAf2 : W4.frozen? ⟨ga, 2, none⟩ = false := LA4.out.frozen 2
    have lAc3 : W4.cell? ⟨ga, 3, none⟩ = some (.int .u64 0) := LA4.out.cell 3
    have lAf3 : W4.frozen? ⟨ga, 3, none⟩ = false := LA4.out.frozen 3
    have lAc4 : W4.cell? ⟨ga, 4, none⟩ = some (.int .u64 0) := LA4.out.cell 4
    have lAf4 : W4.frozen? ⟨ga, 4, none⟩ = false := LA4.out.frozen 4
    have lAc5 : W4.cell? ⟨ga, 5, none⟩ = some (.bool false) := LA4.out.cell 5
    have lAf5 : W4.frozen? ⟨ga, 5, none⟩ = false := LA4.out.frozen 5
    go_wp2_with fail
    rw [E.out]
    have R5 := Lib.hid ((((((R4.out.loc (p := ⟨ga, 0, none⟩) (Nat.le_of_eq HGA.out) (.int .i64 5)).loc (p := ⟨ga, 1, none⟩) (Nat.le_of_eq HGA.out) (.int .i64 t)).loc (p := ⟨ga, 2, none⟩) (Nat.le_of_eq HGA.out) (.int .i64 0)).loc (p := ⟨ga, 3, none⟩) (Nat.le_of_eq HGA.out) (.int .u64 0)).loc (p := ⟨ga, 4, none⟩) (Nat.le_of_eq HGA.out) (.int .u64 0)).loc (p := ⟨ga, 5, none⟩) (Nat.le_of_eq HGA.out) (.bool true))
    have L5 : Blk ((((((W4.setCell ⟨ga, 0, none⟩ (.int .i64 5)).setCell ⟨ga, 1, none⟩ (.int .i64 t)).setCell ⟨ga, 2, none⟩ (.int .i64 0)).setCell ⟨ga, 3, none⟩ (.int .u64 0)).setCell ⟨ga, 4, none⟩ (.int .u64 0)).setCell ⟨ga, 5, none⟩ (.bool true)) ga 116 [.int .i64 5, .int .i64 t, .int .i64 0, .int .u64 0, .int .u64 0, .bool true] := ((((((LA4.out.set 0 (.int .i64 5)).set 1 (.int .i64 t)).set 2 (.int .i64 0)).set 3 (.int .u64 0)).set 4 (.int .u64 0)).set 5 (.bool true))
    generalize ((((((W4.setCell ⟨ga, 0, none⟩ (.int .i64 5)).setCell ⟨ga, 1, none⟩ (.int .i64 t)).setCell ⟨ga, 2, none⟩ (.int .i64 0)).setCell ⟨ga, 3, none⟩ (.int .u64 0)).setCell ⟨ga, 4, none⟩ (.int .u64 0)).setCell ⟨ga, 5, none⟩ (.bool true)) = W5 at *
    have y0 : W5.cell? ⟨ga, 0, none⟩ = some (.int .i64 5) := L5.cell 0
    have y1 : W5.cell? ⟨ga, 1, none⟩ = some (.int .i64 t) := L5.cell 1
    have y2 : W5.cell? ⟨ga, 2, none⟩ = some (.int .i64 0) := L5.cell 2
    have y3 : W5.cell? ⟨ga, 3, none⟩ = some (.int .u64 0) := L5.cell 3
    have y4 : W5.cell? ⟨ga, 4, none⟩ = some (.int .u64 0) := L5.cell 4
    have y5 : W5.cell? ⟨ga, 5, none⟩ = some (.bool true) := L5.cell 5
    refine bodyPost_ret (v := .agg #[.int .i64 5, .int .i64 t, .int .i64 0, .int .u64 0, .int .u64 0, .bool true]) (by simp [results, Tryz.results50, go_sem, y0, y1, y2, y3, y4, y5]) rfl ⟨⟨_, rfl⟩, ?_⟩
    exact R5.out.done ((s.withDev (s.dev.fence t)).note ⟨5, t, 0, 0, 0, true⟩ false) rfl rfl rfl
set_option maxRecDepth 100000 in
set_option maxHeartbeats 2000000 in
theorem refFlush7 (h : IsRMem B w g R pv s) (ok : Sound s.dev) {i : Nat} (hi : i ≤ 1000) (fine : Fine i s.dev) (hc : Calm s) (t a z x : Int) (h0 : -9223372036854775808 ≤ a) (h1 : a < 9223372036854775808) :
    Calls Tryz.prog 50 #[.pointer (some ⟨g, 0, none⟩), .int .i64 4, .int .i64 t, .int .i64 a, .int .u64 z, .int .u64 x] w fun e w' => (∃ u, e = .returned u) ∧ IsRMem B w' g R pv (s.flush t a) ∧ Fr (rfoot g R pv) w w' := by
  have HP := Lib.hid (fun (W : World) (y : Ext w W) => refPeek_ok (h.ext y) ok a h0 h1)
  have HR := Lib.hid (RM.of h)
  have hg : g < w.heap.size := h.blk.lt
  have hg2 : ¬ g = w.heap.size := by omega
  have hg3 : ¬ w.heap.size = g := by omega
  have hg4 : ¬ g = w.heap.size + 1 := by omega
  have hg5 : ¬ w.heap.size + 1 = g := by omega
  obtain ⟨k0, k1, b0, b1⟩ := hc
  have c0 : w.cell? ⟨g, 0, none⟩ = some (.pointer (some ⟨R.g, 0, none⟩)) := h.blk.cell 0
  have c2 : w.cell? ⟨g, 2, none⟩ = some (.int .i64 s.clock) := h.blk.cell 2
  have c3 : w.cell? ⟨g, 3, none⟩ = some (.int .i64 s.bad) := h.blk.cell 3
  have c4 : w.cell? ⟨g, 4, none⟩ = some (.int .i64 s.last.k) := h.blk.cell 4
  have c5 : w.cell? ⟨g, 5, none⟩ = some (.int .i64 s.last.t) := h.blk.cell 5
  have c6 : w.cell? ⟨g, 6, none⟩ = some (.int .i64 s.last.a) := h.blk.cell 6
  have c7 : w.cell? ⟨g, 7, none⟩ = some (.int .u64 s.last.o) := h.blk.cell 7
  have c8 : w.cell? ⟨g, 8, none⟩ = some (.int .u64 s.last.n) := h.blk.cell 8
  have c9 : w.cell? ⟨g, 9, none⟩ = some (.bool s.last.d) := h.blk.cell 9
  have f2 : w.frozen? ⟨g, 2, none⟩ = false := h.blk.frozen 2
  have f3 : w.frozen? ⟨g, 3, none⟩ = false := h.blk.frozen 3
  have f4 : w.frozen? ⟨g, 4, none⟩ = false := h.blk.frozen 4
  have f5 : w.frozen? ⟨g, 5, none⟩ = false := h.blk.frozen 5
  have f6 : w.frozen? ⟨g, 6, none⟩ = false := h.blk.frozen 6
  have f7 : w.frozen? ⟨g, 7, none⟩ = false := h.blk.frozen 7
  have f8 : w.frozen? ⟨g, 8, none⟩ = false := h.blk.frozen 8
  have f9 : w.frozen? ⟨g, 9, none⟩ = false := h.blk.frozen 9
  by_cases ha : 0 ≤ a
  · obtain ⟨p, rfl⟩ := Int.eq_ofNat_of_zero_le ha
    obtain ⟨q, hq⟩ : ∃ q : Nat, p / 8 = q := ⟨_, rfl⟩
    have t1 : (p : Int).tdiv 8 = (q : Int) := by rw [Int.tdiv_eq_ediv_of_nonneg (by omega)]; omega
    have t2 : (p : Int) / 8 = (q : Int) := by omega
    have hq2 : (q : Int) < 9223372036854775808 := by omega
    have hq3 : -9223372036854775808 ≤ (q : Int) := by omega
    have HW : Hid (IntKind.i64.wrap (q : Int) = (q : Int)) := Lib.hid (IntWalk.i64_in _ (by omega))
    have HD := Lib.hid (fun (W : World) (y : Ext w W) => (h.dev.ext y).flushR ok t (q : Int))
    have E := Lib.hid (show s.flush t (p : Int) = (s.withDev (s.dev.flush t (q : Int))).note ⟨4, t, (p : Int), 0, 0, (flushE s.dev t (q : Int) == 0)⟩ (!(flushE s.dev t (q : Int) == 0)) by unfold MSt.flush MSt.asked lineNo; rw [if_neg (by omega), t2])
    generalize peekV s (p : Int) = y at *
    generalize peekB s (p : Int) = pb at *
    generalize flushE s.dev t (q : Int) = er at *
    generalize HDD : s.dev.flush t (q : Int) = dd at *
    clear HDD
    clear h ok fine hq ha h0 h1
    unfold RefB.ptr at HD
    go_enter Tryz.func50, Tryz.ntmps50
    go_wp2_with fail
    refine (HP.out _ (by exact ext2 w _ _)).mono ?_
    rintro e w' ⟨rfl, rfl⟩
    go_wp2_with fail
    try rw [show RowKit.wrap64 (q : Int) = (q : Int) from HW.out]
    refine (HD.out _ (by exact ext2 w _ _)).mono ?_
    rintro e w1 ⟨rfl, r1, f1⟩
    have R1 := Lib.hid (((HR.out.alloc (.cells #[.int .i64 0, .int .i64 0, .int .i64 0, .int .u64 0, .int .u64 0, .bool false] 116)).alloc (.cells #[.int .i64 4, .int .i64 t, .int .i64 (p : Int), .int .u64 0, .int .u64 0, .bool false] 116)).devTo r1 f1)
    have lA : Blk w1 w.heap.size 116 [.int .i64 0, .int .i64 0, .int .i64 0, .int .u64 0, .int .u64 0, .bool false] := ((Blk.new w _ [.int .i64 0, .int .i64 0, .int .i64 0, .int .u64 0, .int .u64 0, .bool false]).ext ((Ext.refl _).alloc (.cells #[.int .i64 4, .int .i64 t, .int .i64 (p : Int), .int .u64 0, .int .u64 0, .bool false] 116))).fr f1 (fun hf => by have := HR.out.lo _ (Or.inr (Or.inr hf)); omega)
    have lB : Blk w1 (w.heap.size + 1) 116 [.int .i64 4, .int .i64 t, .int .i64 (p : Int), .int .u64 0, .int .u64 0, .bool false] := by
      have hb := Blk.new (w.alloc (.cells #[.int .i64 0, .int .i64 0, .int .i64 0, .int .u64 0, .int .u64 0, .bool false] 116)) 116 [.int .i64 4, .int .i64 t, .int .i64 (p : Int), .int .u64 0, .int .u64 0, .bool false]
      rw [show (w.alloc (.cells #[.int .i64 0, .int .i64 0, .int .i64 0, .int .u64 0, .int .u64 0, .bool false] 116)).heap.size = w.heap.size + 1 by simp] at hb
      exact hb.fr f1 (fun hf => by have := HR.out.lo _ (Or.inr (Or.inr hf)); omega)
    have s5 : ¬ w.heap.size = w.heap.size + 1 := by omega
    have s6 : ¬ w.heap.size + 1 = w.heap.size := by omega
    clear r1 f1 HP HD HR t1 t2 hq2 hq3 HW c0 c2 c3 c4 c5 c6 c7 c8 c9 f2 f3 f4 f5 f6 f7 f8 f9
    obtain ⟨gb, hgb⟩ : ∃ b, w.heap.size + 1 = b := ⟨_, rfl⟩
    obtain ⟨ga, hga⟩ : ∃ b, w.heap.size = b := ⟨_, rfl⟩
    rw [hgb] at lB s5 s6 hg4 hg5 ⊢
    rw [hga] at lA s5 s6 hg2 hg3 ⊢
    have HGA := Lib.hid hga
    have HGB := Lib.hid hgb
    clear hga hgb hg
    have kB5 : w1.cell? ⟨gb, 5, none⟩ = some (.bool false) := lB.cell 5
    have fB5 : w1.frozen? ⟨gb, 5, none⟩ = false := lB.frozen 5
    have LA1 := Lib.hid lA
    have LB1 := Lib.hid lB
    clear lA lB
    go_upto_region 19 with fail
    have R2 := Lib.hid (R1.out.loc (p := ⟨gb, 5, none⟩) (by have := HGB.out; show w.heap.size ≤ gb; omega) (.bool (er == 0)))
    have LA2 : Hid (Blk (w1.setCell ⟨gb, 5, none⟩ (.bool (er == 0))) ga 116 [.int .i64 0, .int .i64 0, .int .i64 0, .int .u64 0, .int .u64 0, .bool false]) := Lib.hid (LA1.out.far (p := ⟨gb, 5, none⟩) s5 _)
    have LB2 : Hid (Blk (w1.setCell ⟨gb, 5, none⟩ (.bool (er == 0))) gb 116 [.int .i64 4, .int .i64 t, .int .i64 (p : Int), .int .u64 0, .int .u64 0, .bool (er == 0)]) := Lib.hid (LB1.out.set 5 (.bool (er == 0)))
    clear kB5 fB5 R1 LA1 LB1
    generalize w1.setCell ⟨gb, 5, none⟩ (.bool (er == 0)) = W2 at *
    generalize (er == 0) = b at *
    cases b
    · have hbl := R2.out.blk
      unfold memCells at hbl
      have v2 : W2.cell? ⟨g, 2, none⟩ = some (.int .i64 s.clock) := hbl.cell 2
      have z2 : W2.frozen? ⟨g, 2, none⟩ = false := hbl.frozen 2
      have v3 : W2.cell? ⟨g, 3, none⟩ = some (.int .i64 s.bad) := hbl.cell 3
      have z3 : W2.frozen? ⟨g, 3, none⟩ = false := hbl.frozen 3
      clear hbl
      go_upto_region 22 with fail
      have R3 := Lib.hid ((R2.out.set 2 (.int .i64 (s.clock + 1))).set 3 (.int .i64 (s.bad + 1)))
      have LA3 : Hid (Blk ((W2.setCell ⟨g, 2, none⟩ (.int .i64 (s.clock + 1))).setCell ⟨g, 3, none⟩ (.int .i64 (s.bad + 1))) ga 116 [.int .i64 0, .int .i64 0, .int .i64 0, .int .u64 0, .int .u64 0, .bool false]) := Lib.hid ((LA2.out.far (p := ⟨g, _, none⟩) hg3 _).far (p := ⟨g, _, none⟩) hg3 _)
      have LB3 : Hid (Blk ((W2.setCell ⟨g, 2, none⟩ (.int .i64 (s.clock + 1))).setCell ⟨g, 3, none⟩ (.int .i64 (s.bad + 1))) gb 116 [.int .i64 4, .int .i64 t, .int .i64 (p : Int), .int .u64 0, .int .u64 0, .bool false]) := Lib.hid ((LB2.out.far (p := ⟨g, _, none⟩) hg5 _).far (p := ⟨g, _, none⟩) hg5 _)
      clear v2 v3 z2 z3 R2 LA2 LB2
      generalize ((W2.setCell ⟨g, 2, none⟩ (.int .i64 (s.clock + 1))).setCell ⟨g, 3, none⟩ (.int .i64 (s.bad + 1))) = W3 at *
      have hbl := R3.out.blk
      unfold memCells at hbl
      have v4 : W3.cell? ⟨g, 4, none⟩ = some (.int .i64 s.last.k) := hbl.cell 4
      have z4 : W3.frozen? ⟨g, 4, none⟩ = false := hbl.frozen 4
      have v5 : W3.cell? ⟨g, 5, none⟩ = some (.int .i64 s.last.t) := hbl.cell 5
      have z5 : W3.frozen? ⟨g, 5, none⟩ = false := hbl.frozen 5
      have v6 : W3.cell? ⟨g, 6, none⟩ = some (.int .i64 s.last.a) := hbl.cell 6
      have z6 : W3.frozen? ⟨g, 6, none⟩ = false := hbl.frozen 6
      have v7 : W3.cell? ⟨g, 7, none⟩ = some (.int .u64 s.last.o) := hbl.cell 7
      have z7 : W3.frozen? ⟨g, 7, none⟩ = false := hbl.frozen 7
      have v8 : W3.cell? ⟨g, 8, none⟩ = some (.int .u64 s.last.n) := hbl.cell 8
      have z8 : W3.frozen? ⟨g, 8, none⟩ = false := hbl.frozen 8
      have v9 : W3.cell? ⟨g, 9, none⟩ = some (.bool s.last.d) := hbl.cell 9
      have z9 : W3.frozen? ⟨g, 9, none⟩ = false := hbl.frozen 9
      clear hbl
      have lBc0 : W3.cell? ⟨gb, 0, none⟩ = some (.int .i64 4) := LB3.out.cell 0
      have lBc1 : W3.cell? ⟨gb, 1, none⟩ = some (.int .i64 t) := LB3.out.cell 1
      have lBc2 : W3.cell? ⟨gb, 2, none⟩ = some (.int .i64 (p : Int)) := LB3.out.cell 2
      have lBc3 : W3.cell? ⟨gb, 3, none⟩ = some (.int .u64 0) := LB3.out.cell 3
      have lBc4 : W3.cell? ⟨gb, 4, none⟩ = some (.int .u64 0) := LB3.out.cell 4
      have lBc5 : W3.cell? ⟨gb, 5, none⟩ = some (.bool false) := LB3.out.cell 5
      go_upto_region 23 with fail
      have R4 := Lib.hid ((((((R3.out.set 4 (.int .i64 4)).set 5 (.int .i64 t)).set 6 (.int .i64 (p : Int))).set 7 (.int .u64 0)).set 8 (.int .u64 0)).set 9 (.bool false))
      have LA4 : Hid (Blk ((((((W3.setCell ⟨g, 4, none⟩ (.int .i64 4)).setCell ⟨g, 5, none⟩ (.int .i64 t)).setCell ⟨g, 6, none⟩ (.int .i64 (p : Int))).setCell ⟨g, 7, none⟩ (.int .u64 0)).setCell ⟨g, 8, none⟩ (.int .u64 0)).setCell ⟨g, 9, none⟩ (.bool false)) ga 116 [.int .i64 0, .int .i64 0, .int .i64 0, .int .u64 0, .int .u64 0, .bool false]) := Lib.hid ((((((LA3.out.far (p := ⟨g, _, none⟩) hg3 _).far (p := ⟨g, _, none⟩) hg3 _).far (p := ⟨g, _, none⟩) hg3 _).far (p := ⟨g, _, none⟩) hg3 _).far (p := ⟨g, _, none⟩) hg3 _).far (p := ⟨g, _, none⟩) hg3 _)
      have LB4 : Hid (Blk ((((((W3.setCell ⟨g, 4, none⟩ (.int .i64 4)).setCell ⟨g, 5, none⟩ (.int .i64 t)).setCell ⟨g, 6, none⟩ (.int .i64 (p : Int))).setCell ⟨g, 7, none⟩ (.int .u64 0)).setCell ⟨g, 8, none⟩ (.int .u64 0)).setCell ⟨g, 9, none⟩ (.bool false)) gb 116 [.int .i64 4, .int .i64 t, .int .i64 (p : Int), .int .u64 0, .int .u64 0, .bool false]) := Lib.hid ((((((LB3.out.far (p := ⟨g, _, none⟩) hg5 _).far (p := ⟨g, _, none⟩) hg5 _).far (p := ⟨g, _, none⟩) hg5 _).far (p := ⟨g, _, none⟩) hg5 _).far (p := ⟨g, _, none⟩) hg5 _).far (p := ⟨g, _, none⟩) hg5 _)
      clear v4 v5 v6 v7 v8 v9 z4 z5 z6 z7 z8 z9 R3 LA3 LB3
      clear lBc0 lBc1 lBc2 lBc3 lBc4 lBc5
      generalize ((((((W3.setCell ⟨g, 4, none⟩ (.int .i64 4)).setCell ⟨g, 5, none⟩ (.int .i64 t)).setCell ⟨g, 6, none⟩ (.int .i64 (p : Int))).setCell ⟨g, 7, none⟩ (.int .u64 0)).setCell ⟨g, 8, none⟩ (.int .u64 0)).setCell ⟨g, 9, none⟩ (.bool false)) = W4 at *
      have lBc0 : W4.cell? ⟨gb, 0, none⟩ = some (.int .i64 4) := LB4.out.cell 0
      have lBc1 : W4.cell? ⟨gb, 1, none⟩ = some (.int .i64 t) := LB4.out.cell 1
      have lBc2 : W4.cell? ⟨gb, 2, none⟩ = some (.int .i64 (p : Int)) := LB4.out.cell 2
      have lBc3 : W4.cell? ⟨gb, 3, none⟩ = some (.int .u64 0) := LB4.out.cell 3
      have lBc4 : W4.cell? ⟨gb, 4, none⟩ = some (.int .u64 0) := LB4.out.cell 4
      have lBc5 : W4.cell? ⟨gb, 5, none⟩ = some (.bool false) := LB4.out.cell 5
      have lAc0 : W4.cell? ⟨ga, 0, none⟩ = some (.int .i64 0) := LA4.out.cell 0
      have lAf0 : W4.frozen? ⟨ga, 0, none⟩ = false := LA4.out.frozen 0
      have lAc1 : W4.cell? ⟨ga, 1, none⟩ = some (.int .i64 0) := LA4.out.cell 1
      have lAf1 : W4.frozen? ⟨ga, 1, none⟩ = false := LA4.out.frozen 1
      have lAc2 : W4.cell? ⟨ga, 2, none⟩ = some (.int .i64 0) := LA4.out.cell 2
      have lAf2 : W4.frozen? ⟨ga, 2, none⟩ = false := LA4.out.frozen 2
      have lAc3 : W4.cell? ⟨ga, 3, none⟩ = some (.int .u64 0) := LA4.out.cell 3
      have lAf3 : W4.frozen? ⟨ga, 3, none⟩ = false := LA4.out.frozen 3
      have lAc4 : W4.cell? ⟨ga, 4, none⟩ = some (.int .u64 0) := LA4.out.cell 4
      have lAf4 : W4.frozen? ⟨ga, 4, none⟩ = false := LA4.out.frozen 4
      have lAc5 : W4.cell? ⟨ga, 5, none⟩ = some (.bool false) := LA4.out.cell 5
      have lAf5 : W4.frozen? ⟨ga, 5, none⟩ = false := LA4.out.frozen 5
      go_wp2_with fail
      rw [E.out]
      have R5 := Lib.hid ((((((R4.out.loc (p := ⟨ga, 0, none⟩) (Nat.le_of_eq HGA.out) (.int .i64 4)).loc (p := ⟨ga, 1, none⟩) (Nat.le_of_eq HGA.out) (.int .i64 t)).loc (p := ⟨ga, 2, none⟩) (Nat.le_of_eq HGA.out) (.int .i64 (p : Int))).loc (p := ⟨ga, 3, none⟩) (Nat.le_of_eq HGA.out) (.int .u64 0)).loc (p := ⟨ga, 4, none⟩) (Nat.le_of_eq HGA.out) (.int .u64 0)).loc (p := ⟨ga, 5, none⟩) (Nat.le_of_eq HGA.out) (.bool false))
      have L5 : Blk ((((((W4.setCell ⟨ga, 0, none⟩ (.int .i64 4)).setCell ⟨ga, 1, none⟩ (.int .i64 t)).setCell ⟨ga, 2, none⟩ (.int .i64 (p : Int))).setCell ⟨ga, 3, none⟩ (.int .u64 0)).setCell ⟨ga, 4, none⟩ (.int .u64 0)).setCell ⟨ga, 5, none⟩ (.bool false)) ga 116 [.int .i64 4, .int .i64 t, .int .i64 (p : Int), .int .u64 0, .int .u64 0, .bool false] := ((((((LA4.out.set 0 (.int .i64 4)).set 1 (.int .i64 t)).set 2 (.int .i64 (p : Int))).set 3 (.int .u64 0)).set 4 (.int .u64 0)).set 5 (.bool false))
      generalize ((((((W4.setCell ⟨ga, 0, none⟩ (.int .i64 4)).setCell ⟨ga, 1, none⟩ (.int .i64 t)).setCell ⟨ga, 2, none⟩ (.int .i64 (p : Int))).setCell ⟨ga, 3, none⟩ (.int .u64 0)).setCell ⟨ga, 4, none⟩ (.int .u64 0)).setCell ⟨ga, 5, none⟩ (.bool false)) = W5 at *
      have y0 : W5.cell? ⟨ga, 0, none⟩ = some (.int .i64 4) := L5.cell 0
      have y1 : W5.cell? ⟨ga, 1, none⟩ = some (.int .i64 t) := L5.cell 1
      have y2 : W5.cell? ⟨ga, 2, none⟩ = some (.int .i64 (p : Int)) := L5.cell 2
      have y3 : W5.cell? ⟨ga, 3, none⟩ = some (.int .u64 0) := L5.cell 3
      have y4 : W5.cell? ⟨ga, 4, none⟩ = some (.int .u64 0) := L5.cell 4
      have y5 : W5.cell? ⟨ga, 5, none⟩ = some (.bool false) := L5.cell 5
      refine bodyPost_ret (v := .agg #[.int .i64 4, .int .i64 t, .int .i64 (p : Int), .int .u64 0, .int .u64 0, .bool false]) (by simp [results, Tryz.results50, go_sem, y0, y1, y2, y3, y4, y5]) rfl ⟨⟨_, rfl⟩, ?_⟩
      exact R5.out.done ((s.withDev dd).note ⟨4, t, (p : Int), 0, 0, false⟩ true) rfl rfl rfl
    · have hbl := R2.out.blk
      unfold memCells at hbl
      have v2 : W2.cell? ⟨g, 2, none⟩ = some (.int .i64 s.clock) := hbl.cell 2
      have z2 : W2.frozen? ⟨g, 2, none⟩ = false := hbl.frozen 2
      have v3 : W2.cell? ⟨g, 3, none⟩ = some (.int .i64 s.bad) := hbl.cell 3
      have z3 : W2.frozen? ⟨g, 3, none⟩ = false := hbl.frozen 3
      clear hbl
      go_upto_region 22 with fail
      have R3 := Lib.hid (R2.out.set 2 (.int .i64 (s.clock + 1)))
      have LA3 : Hid (Blk (W2.setCell ⟨g, 2, none⟩ (.int .i64 (s.clock + 1))) ga 116 [.int .i64 0, .int .i64 0, .int .i64 0, .int .u64 0, .int .u64 0, .bool false]) := Lib.hid (LA2.out.far (p := ⟨g, _, none⟩) hg3 _)
      have LB3 : Hid (Blk (W2.setCell ⟨g, 2, none⟩ (.int .i64 (s.clock + 1))) gb 116 [.int .i64 4, .int .i64 t, .int .i64 (p : Int), .int .u64 0, .int .u64 0, .bool true]) := Lib.hid (LB2.out.far (p := ⟨g, _, none⟩) hg5 _)
      clear v2 v3 z2 z3 R2 LA2 LB2
      generalize (W2.setCell ⟨g, 2, none⟩ (.int .i64 (s.clock + 1))) = W3 at *
      have hbl := R3.out.blk
      unfold memCells at hbl
      have v4 : W3.cell? ⟨g, 4, none⟩ = some (.int .i64 s.last.k) := hbl.cell 4
      have z4 : W3.frozen? ⟨g, 4, none⟩ = false := hbl.frozen 4
      have v5 : W3.cell? ⟨g, 5, none⟩ = some (.int .i64 s.last.t) := hbl.cell 5
      have z5 : W3.frozen? ⟨g, 5, none⟩ = false := hbl.frozen 5
      have v6 : W3.cell? ⟨g, 6, none⟩ = some (.int .i64 s.last.a) := hbl.cell 6
      have z6 : W3.frozen? ⟨g, 6, none⟩ = false := hbl.frozen 6
      have v7 : W3.cell? ⟨g, 7, none⟩ = some (.int .u64 s.last.o) := hbl.cell 7
      have z7 : W3.frozen? ⟨g, 7, none⟩ = false := hbl.frozen 7
      have v8 : W3.cell? ⟨g, 8, none⟩ = some (.int .u64 s.last.n) := hbl.cell 8
      have z8 : W3.frozen? ⟨g, 8, none⟩ = false := hbl.frozen 8
      have v9 : W3.cell? ⟨g, 9, none⟩ = some (.bool s.last.d) := hbl.cell 9
      have z9 : W3.frozen? ⟨g, 9, none⟩ = false := hbl.frozen 9
      clear hbl
      have lBc0 : W3.cell? ⟨gb, 0, none⟩ = some (.int .i64 4) := LB3.out.cell 0
      have lBc1 : W3.cell? ⟨gb, 1, none⟩ = some (.int .i64 t) := LB3.out.cell 1
      have lBc2 : W3.cell? ⟨gb, 2, none⟩ = some (.int .i64 (p : Int)) := LB3.out.cell 2
      have lBc3 : W3.cell? ⟨gb, 3, none⟩ = some (.int .u64 0) := LB3.out.cell 3
      have lBc4 : W3.cell? ⟨gb, 4, none⟩ = some (.int .u64 0) := LB3.out.cell 4
      have lBc5 : W3.cell? ⟨gb, 5, none⟩ = some (.bool true) := LB3.out.cell 5
      go_upto_region 23 with fail
      have R4 := Lib.hid ((((((R3.out.set 4 (.int .i64 4)).set 5 (.int .i64 t)).set 6 (.int .i64 (p : Int))).set 7 (.int .u64 0)).set 8 (.int .u64 0)).set 9 (.bool true))
      have LA4 : Hid (Blk ((((((W3.setCell ⟨g, 4, none⟩ (.int .i64 4)).setCell ⟨g, 5, none⟩ (.int .i64 t)).setCell ⟨g, 6, none⟩ (.int .i64 (p : Int))).setCell ⟨g, 7, none⟩ (.int .u64 0)).setCell ⟨g, 8, none⟩ (.int .u64 0)).setCell ⟨g, 9, none⟩ (.bool true)) ga 116 [.int .i64 0, .int .i64 0, .int .i64 0, .int .u64 0, .int .u64 0, .bool false]) := Lib.hid ((((((LA3.out.far (p := ⟨g, _, none⟩) hg3 _).far (p := ⟨g, _, none⟩) hg3 _).far (p := ⟨g, _, none⟩) hg3 _).far (p := ⟨g, _, none⟩) hg3 _).far (p := ⟨g, _, none⟩) hg3 _).far (p := ⟨g, _, none⟩) hg3 _)
      have LB4 : Hid (Blk ((((((W3.setCell ⟨g, 4, none⟩ (.int .i64 4)).setCell ⟨g, 5, none⟩ (.int .i64 t)).setCell ⟨g, 6, none⟩ (.int .i64 (p : Int))).setCell ⟨g, 7, none⟩ (.int .u64 0)).setCell ⟨g, 8, none⟩ (.int .u64 0)).setCell ⟨g, 9, none⟩ (.bool true)) gb 116 [.int .i64 4, .int .i64 t, .int .i64 (p : Int), .int .u64 0, .int .u64 0, .bool true]) := Lib.hid ((((((LB3.out.far (p := ⟨g, _, none⟩) hg5 _).far (p := ⟨g, _, none⟩) hg5 _).far (p := ⟨g, _, none⟩) hg5 _).far (p := ⟨g, _, none⟩) hg5 _).far (p := ⟨g, _, none⟩) hg5 _).far (p := ⟨g, _, none⟩) hg5 _)
      clear v4 v5 v6 v7 v8 v9 z4 z5 z6 z7 z8 z9 R3 LA3 LB3
      clear lBc0 lBc1 lBc2 lBc3 lBc4 lBc5
      generalize ((((((W3.setCell ⟨g, 4, none⟩ (.int .i64 4)).setCell ⟨g, 5, none⟩ (.int .i64 t)).setCell ⟨g, 6, none⟩ (.int .i64 (p : Int))).setCell ⟨g, 7, none⟩ (.int .u64 0)).setCell ⟨g, 8, none⟩ (.int .u64 0)).setCell ⟨g, 9, none⟩ (.bool true)) = W4 at *
      have lBc0 : W4.cell? ⟨gb, 0, none⟩ = some (.int .i64 4) := LB4.out.cell 0
      have lBc1 : W4.cell? ⟨gb, 1, none⟩ = some (.int .i64 t) := LB4.out.cell 1
      have lBc2 : W4.cell? ⟨gb, 2, none⟩ = some (.int .i64 (p : Int)) := LB4.out.cell 2
      have lBc3 : W4.cell? ⟨gb, 3, none⟩ = some (.int .u64 0) := LB4.out.cell 3
      have lBc4 : W4.cell? ⟨gb, 4, none⟩ = some (.int .u64 0) := LB4.out.cell 4
      have lBc5 : W4.cell? ⟨gb, 5, none⟩ = some (.bool true) := LB4.out.cell 5
      have lAc0 : W4.cell? ⟨ga, 0, none⟩ = some (.int .i64 0) := LA4.out.cell 0
      have lAf0 : W4.frozen? ⟨ga, 0, none⟩ = false := LA4.out.frozen 0
      have lAc1 : W4.cell? ⟨ga, 1, none⟩ = some (.int .i64 0) := LA4.out.cell 1
      have lAf1 : W4.frozen? ⟨ga, 1, none⟩ = false := LA4.out.frozen 1
      have lAc2 : W4.cell? ⟨ga, 2, none⟩ = some (.int .i64 0) := LA4.out.cell 2
      have lAf2 : W4.frozen? ⟨ga, 2, none⟩ = false := LA4.out.frozen 2
      have lAc3 : W4.cell? ⟨ga, 3, none⟩ = some (.int .u64 0) := LA4.out.cell 3
      have lAf3 : W4.frozen? ⟨ga, 3, none⟩ = false := LA4.out.frozen 3
      have lAc4 : W4.cell? ⟨ga, 4, none⟩ = some (.int .u64 0) := LA4.out.cell 4
      have lAf4 : W4.frozen? ⟨ga, 4, none⟩ = false := LA4.out.frozen 4
      have lAc5 : W4.cell? ⟨ga, 5, none⟩ = some (.bool false) := LA4.out.cell 5
      have lAf5 : W4.frozen? ⟨ga, 5, none⟩ = false := LA4.out.frozen 5
      go_wp2_with fail
      rw [E.out]
      have R5 := Lib.hid ((((((R4.out.loc (p := ⟨ga, 0, none⟩) (Nat.le_of_eq HGA.out) (.int .i64 4)).loc (p := ⟨ga, 1, none⟩) (Nat.le_of_eq HGA.out) (.int .i64 t)).loc (p := ⟨ga, 2, none⟩) (Nat.le_of_eq HGA.out) (.int .i64 (p : Int))).loc (p := ⟨ga, 3, none⟩) (Nat.le_of_eq HGA.out) (.int .u64 0)).loc (p := ⟨ga, 4, none⟩) (Nat.le_of_eq HGA.out) (.int .u64 0)).loc (p := ⟨ga, 5, none⟩) (Nat.le_of_eq HGA.out) (.bool true))
      have L5 : Blk ((((((W4.setCell ⟨ga, 0, none⟩ (.int .i64 4)).setCell ⟨ga, 1, none⟩ (.int .i64 t)).setCell ⟨ga, 2, none⟩ (.int .i64 (p : Int))).setCell ⟨ga, 3, none⟩ (.int .u64 0)).setCell ⟨ga, 4, none⟩ (.int .u64 0)).setCell ⟨ga, 5, none⟩ (.bool true)) ga 116 [.int .i64 4, .int .i64 t, .int .i64 (p : Int), .int .u64 0, .int .u64 0, .bool true] := ((((((LA4.out.set 0 (.int .i64 4)).set 1 (.int .i64 t)).set 2 (.int .i64 (p : Int))).set 3 (.int .u64 0)).set 4 (.int .u64 0)).set 5 (.bool true))
      generalize ((((((W4.setCell ⟨ga, 0, none⟩ (.int .i64 4)).setCell ⟨ga, 1, none⟩ (.int .i64 t)).setCell ⟨ga, 2, none⟩ (.int .i64 (p : Int))).setCell ⟨ga, 3, none⟩ (.int .u64 0)).setCell ⟨ga, 4, none⟩ (.int .u64 0)).setCell ⟨ga, 5, none⟩ (.bool true)) = W5 at *
      have y0 : W5.cell? ⟨ga, 0, none⟩ = some (.int .i64 4) := L5.cell 0
      have y1 : W5.cell? ⟨ga, 1, none⟩ = some (.int .i64 t) := L5.cell 1
      have y2 : W5.cell? ⟨ga, 2, none⟩ = some (.int .i64 (p : Int)) := L5.cell 2
      have y3 : W5.cell? ⟨ga, 3, none⟩ = some (.int .u64 0) := L5.cell 3
      have y4 : W5.cell? ⟨ga, 4, none⟩ = some (.int .u64 0) := L5.cell 4
      have y5 : W5.cell? ⟨ga, 5, none⟩ = some (.bool true) := L5.cell 5
      refine bodyPost_ret (v := .agg #[.int .i64 4, .int .i64 t, .int .i64 (p : Int), .int .u64 0, .int .u64 0, .bool true]) (by simp [results, Tryz.results50, go_sem, y0, y1, y2, y3, y4, y5]) rfl ⟨⟨_, rfl⟩, ?_⟩
      exact R5.out.done ((s.withDev dd).note ⟨4, t, (p : Int), 0, 0, true⟩ false) rfl rfl rfl
  · have E := Lib.hid (show s.flush t a = s.note ⟨4, t, a, 0, 0, false⟩ true by
      have e1 : s.dev.flush t (-1) = s.dev := by unfold DSt.flush; rw [if_neg (fun c => by omega)]
      have e2 : (flushE s.dev t (-1) == 0) = false := by unfold flushE; split <;> (try rw [if_neg (fun c => by omega)]) <;> rfl
      unfold MSt.flush MSt.asked lineNo
      rw [if_pos (by omega), e1, e2]
      rfl)
    have hn : ¬ 0 ≤ a := ha
    generalize peekV s a = y at *
    generalize peekB s a = pb at *
    clear h ok fine ha
    go_enter Tryz.func50, Tryz.ntmps50
    go_wp2_with fail
    refine (HP.out _ (by exact ext2 w _ _)).mono ?_
    rintro e w' ⟨rfl, rfl⟩
    go_wp2_with fail
    rw [E.out]
    refine bodyPost_ret (v := .agg #[.int .i64 4, .int .i64 t, .int .i64 a, .int .u64 0, .int .u64 0, .bool false]) (by simp [results, Tryz.results50, go_sem]) rfl ⟨⟨_, rfl⟩, ?_⟩
    exact ((((((((((HR.out.set 2 (.int .i64 (s.clock + 1))).set 3 (.int .i64 (s.bad + 1))).set 4 (.int .i64 4)).set 5 (.int .i64 t)).set 6 (.int .i64 a)).set 7 (.int .u64 0)).set 8 (.int .u64 0)).set 9 (.bool false)).alloc _).alloc _).done (s.note ⟨4, t, a, 0, 0, false⟩ true) rfl rfl rfl
end
end Go.Proofs.YtbicloceaddinaaGreat


/- The document's memory: Crash; an act on it (limekilnlaw07.Must). Conditions: those that each theorem names. -/
namespace Go.Proofs.YtbicloceaddinaaGreat
open Go.ChangeShapes Go.WideShapes Go.ChangeAt Go.RowKit
set_option linter.unusedVariables false
/-- The first k noughts, the rest as it was. -/
def zeroed (l : List Int) (k : Nat) : List Int := List.replicate k 0 ++ l.drop k
theorem zeroed_len {l : List Int} {k : Nat} (h : k ≤ l.length) : (zeroed l k).length = l.length := by unfold zeroed; simp; omega
theorem zeroed_set {l : List Int} {k : Nat} (h : k < l.length) : (zeroed l k).set k 0 = zeroed l (k + 1) := by
  unfold zeroed
  apply List.ext_getElem?
  intro j
  simp only [List.getElem?_set, List.getElem?_append, List.length_replicate, List.getElem?_replicate, List.getElem?_drop, List.length_append, List.length_drop]
  by_cases h1 : k = j
  · subst h1
    simp [show k < k + (l.length - k) by omega]
  · by_cases h2 : j < k
    · simp [h1, h2, show j < k + 1 by omega]
    · simp [h1, h2, show ¬ j < k + 1 by omega, show k + (j - k) = k + 1 + (j - (k + 1)) by omega]
theorem zeroed_all (l : List Int) : zeroed l l.length = List.replicate l.length 0 := by unfold zeroed; simp
section
variable {B g : Nat} {w : World} {R : RefB} {pv : Value} {s : MSt}
set_option maxRecDepth 100000 in
set_option maxHeartbeats 2000000 in
theorem refCrash7 (h : IsRMem B w g R pv s) (ok : Sound s.dev) {i : Nat} (hi : i ≤ 1000) (fine : Fine i s.dev) :
    Calls Tryz.prog 76 #[.pointer (some ⟨g, 0, none⟩)] w fun e w' => (∃ u, e = .returned u) ∧ IsRMem B w' g R pv s.crash ∧ Fr (rfoot g R pv) w w' := by
  have c0 : w.cell? ⟨g, 0, none⟩ = some (.pointer (some ⟨R.g, 0, none⟩)) := h.blk.cell 0
  have HD := h.dev.crashR ok hi fine 0 0
  unfold RefB.ptr at HD
  have HDD := Lib.hid HD
  have HR := Lib.hid (RM.of h)
  have lp := h.lp
  obtain ⟨A, c, e, hI, _⟩ := h.pas.form
  obtain ⟨N, hN⟩ : ∃ N, s.pas.length = N := ⟨_, rfl⟩
  rw [hN] at e lp
  have HN := Lib.hid hN
  have HE := Lib.hid e
  clear h ok fine hi HD hI e hN
  go_enter Tryz.func76, Tryz.ntmps76
  go_wp2_with fail
  refine HDD.out.mono ?_
  rintro e w1 ⟨rfl, r1, f1⟩
  have R1 := Lib.hid (HR.out.devTo r1 f1)
  clear r1 f1 HDD c0 HR
  go_wp2_with fail
  go_loopw [2] (fun i wr => ∃ k : Nat, k ≤ N ∧ i = .int .i64 k ∧ RM B w wr g R pv (memCells R.ptr pv s) s.dev.crashed (zeroed s.pas k)) (fun i _ => N - (intOf i).toNat)
  case atStart => exact ⟨0, Nat.zero_le _, rfl, R1.out⟩
  case round =>
    clear R1
    obtain ⟨k, hk, rfl, rk⟩ := hrel
    have RK := Lib.hid rk
    have c1 : wr.cell? ⟨g, 1, none⟩ = some (.slice A N c) := by rw [← HE.out]; exact rk.blk.cell 1
    have hlen : Hid ((zeroed s.pas k).length = N) := Lib.hid (by rw [zeroed_len (by rw [HN.out]; exact hk)]; exact HN.out)
    by_cases hlt : k < N
    · have v1 : decide (k < N) = true := by simp; omega
      have hrow : RowN wr B 45 1 .u64 (.slice A N c) N (zeroed s.pas k) := by
        have := RowN.of_row rk.pas
        rw [HE.out, hlen.out] at this
        exact this
      obtain ⟨gp, c', e', _, _, _, hgl⟩ := hrow.at_ (by omega)
      injection e' with e1 e2 e3
      subst e1 e3
      have hcp : wr.cell? ⟨gp, k, none⟩ = some (.int .u64 ((zeroed s.pas k).getD k 0)) := RowN.cell hrow (by omega)
      have hfp : wr.frozen? ⟨gp, k, none⟩ = false := RowN.frozen hrow k
      generalize (zeroed s.pas k).getD k 0 = yy at *
      clear hrow rk hgl e2
      go_wp2_with fail
      go_roundw
      case rel =>
        refine ⟨k + 1, by omega, by go_num, ?_⟩
        have := RK.out.pasTo (gp := gp) (c := c) (by rw [HE.out, hlen.out]) k 0
        rw [zeroed_set (by rw [HN.out]; exact hlt)] at this
        exact this
      case measure => simp [intOf]; omega
    · have v1 : decide (k < N) = false := by simp; omega
      obtain rfl : k = N := by omega
      have hbl := rk.blk
      unfold memCells at hbl
      have v4 : wr.cell? ⟨g, 4, none⟩ = some (.int .i64 s.last.k) := hbl.cell 4
      have z4 : wr.frozen? ⟨g, 4, none⟩ = false := hbl.frozen 4
      have v5 : wr.cell? ⟨g, 5, none⟩ = some (.int .i64 s.last.t) := hbl.cell 5
      have z5 : wr.frozen? ⟨g, 5, none⟩ = false := hbl.frozen 5
      have v6 : wr.cell? ⟨g, 6, none⟩ = some (.int .i64 s.last.a) := hbl.cell 6
      have z6 : wr.frozen? ⟨g, 6, none⟩ = false := hbl.frozen 6
      have v7 : wr.cell? ⟨g, 7, none⟩ = some (.int .u64 s.last.o) := hbl.cell 7
      have z7 : wr.frozen? ⟨g, 7, none⟩ = false := hbl.frozen 7
      have v8 : wr.cell? ⟨g, 8, none⟩ = some (.int .u64 s.last.n) := hbl.cell 8
      have z8 : wr.frozen? ⟨g, 8, none⟩ = false := hbl.frozen 8
      have v9 : wr.cell? ⟨g, 9, none⟩ = some (.bool s.last.d) := hbl.cell 9
      have z9 : wr.frozen? ⟨g, 9, none⟩ = false := hbl.frozen 9
      clear hbl rk
      go_wp2_with fail
      refine bodyPost_end (results_none rfl _ _ _) rfl ?_
      refine ⟨⟨_, rfl⟩, ?_⟩
      refine ((((((RK.out.set 4 (.int .i64 0)).set 5 (.int .i64 0)).set 6 (.int .i64 0)).set 7 (.int .u64 0)).set 8 (.int .u64 0)).set 9 (.bool false)).done s.crash rfl rfl ?_
      show zeroed s.pas k = List.replicate s.pas.length 0
      rw [← HN.out]
      exact zeroed_all _
set_option maxRecDepth 100000 in
set_option maxHeartbeats 2000000 in
theorem must7_ok (h : IsRMem B w g R pv s) (ok : Sound s.dev) {i : Nat} (hi : i ≤ 1000) (fine : Fine i s.dev) (hc : Calm s) (k t a z x : Int) (h0 : -9223372036854775808 ≤ a) (h1 : a < 9223372036854775808) :
    Calls Tryz.prog 13 #[.pointer (some ⟨g, 0, none⟩), .agg #[.int .i64 k, .int .i64 t, .int .i64 a, .int .u64 z, .int .u64 x]] w (fun e w' => (∃ u, e = .returned u) ∧ IsRMem B w' g R pv (s.act k t a z x) ∧ Fr (rfoot g R pv) w w') := by
  have y0 := (Ext.refl w).alloc (.cells #[.int .i64 k, .int .i64 t, .int .i64 a, .int .u64 z, .int .u64 x] 47)
  have hW := h.ext y0
  have HF : Hid (∀ w', Fr (rfoot g R pv) (w.alloc (.cells #[.int .i64 k, .int .i64 t, .int .i64 a, .int .u64 z, .int .u64 x] 47)) w' → Fr (rfoot g R pv) w w') := Lib.hid (fun w' f => (Fr.of_ext y0).trans f (fun _ _ hs => hs))
  have H1 := Lib.hid (refLoad7 hW ok hc t a z x h0 h1)
  have H2 := Lib.hid (refStore7 hW ok hc t a z x h0 h1)
  have H3 := Lib.hid (refSwap7 hW ok hc t a z x h0 h1)
  have H4 := Lib.hid (refFlush7 hW ok hi fine hc t a z x h0 h1)
  have H5 := Lib.hid (refFence7 hW ok hi fine hc t a z x h0 h1)
  have H8 := Lib.hid (refCrash7 hW ok hi fine)
  by_cases k1 : k = 1
  · subst k1
    rw [show s.act 1 t a z x = s.load t a from rfl]
    clear y0 hW h ok fine hc
    go_enter Tryz.func13, Tryz.ntmps13
    go_wp2_with fail
    refine H1.out.mono ?_
    rintro e w1 ⟨⟨u, rfl⟩, m1, f1⟩
    have M1 := Lib.hid m1
    have F1 := Lib.hid (HF.out _ f1)
    clear m1 f1
    go_wp2_with fail
    refine bodyPost_ret (results_none rfl _ _ _) rfl ?_
    exact ⟨⟨_, rfl⟩, M1.out, F1.out⟩
  by_cases k2 : k = 2
  · subst k2
    rw [show s.act 2 t a z x = s.store t a x from rfl]
    clear y0 hW h ok fine hc
    go_enter Tryz.func13, Tryz.ntmps13
    go_wp2_with fail
    refine H2.out.mono ?_
    rintro e w1 ⟨⟨u, rfl⟩, m1, f1⟩
    have M1 := Lib.hid m1
    have F1 := Lib.hid (HF.out _ f1)
    clear m1 f1
    go_wp2_with fail
    refine bodyPost_ret (results_none rfl _ _ _) rfl ?_
    exact ⟨⟨_, rfl⟩, M1.out, F1.out⟩
  by_cases k3 : k = 3
  · subst k3
    rw [show s.act 3 t a z x = s.swap t a z x from rfl]
    clear y0 hW h ok fine hc
    go_enter Tryz.func13, Tryz.ntmps13
    go_wp2_with fail
    refine H3.out.mono ?_
    rintro e w1 ⟨⟨u, rfl⟩, m1, f1⟩
    have M1 := Lib.hid m1
    have F1 := Lib.hid (HF.out _ f1)
    clear m1 f1
    go_wp2_with fail
    refine bodyPost_ret (results_none rfl _ _ _) rfl ?_
    exact ⟨⟨_, rfl⟩, M1.out, F1.out⟩
  by_cases k4 : k = 4
  · subst k4
    rw [show s.act 4 t a z x = s.flush t a from rfl]
    clear y0 hW h ok fine hc
    go_enter Tryz.func13, Tryz.ntmps13
    go_wp2_with fail
    refine H4.out.mono ?_
    rintro e w1 ⟨⟨u, rfl⟩, m1, f1⟩
    have M1 := Lib.hid m1
    have F1 := Lib.hid (HF.out _ f1)
    clear m1 f1
    go_wp2_with fail
    refine bodyPost_ret (results_none rfl _ _ _) rfl ?_
    exact ⟨⟨_, rfl⟩, M1.out, F1.out⟩
  by_cases k5 : k = 5
  · subst k5
    rw [show s.act 5 t a z x = s.fence t from rfl]
    clear y0 hW h ok fine hc
    go_enter Tryz.func13, Tryz.ntmps13
    go_wp2_with fail
    refine H5.out.mono ?_
    rintro e w1 ⟨⟨u, rfl⟩, m1, f1⟩
    have M1 := Lib.hid m1
    have F1 := Lib.hid (HF.out _ f1)
    clear m1 f1
    go_wp2_with fail
    refine bodyPost_ret (results_none rfl _ _ _) rfl ?_
    exact ⟨⟨_, rfl⟩, M1.out, F1.out⟩
  by_cases k6 : k = 6
  · subst k6
    rw [show s.act 6 t a z x = s.withDev (s.dev.evict a) from rfl]
    have c0 : w.cell? ⟨g, 0, none⟩ = some (.pointer (some ⟨R.g, 0, none⟩)) := h.blk.cell 0
    have hg := h.blk.lt
    have hg2 : ¬ g = w.heap.size := by omega
    have HE : Hid (∀ (W : World), Ext w W → Calls Tryz.prog 75 #[.pointer (some ⟨R.g, 0, none⟩), .int .i64 2, .int .i64 0, .int .i64 a] W fun e w' => e = .returned (.int .i64 (evictE s.dev a)) ∧ IsRMem B w' g R pv (s.withDev (s.dev.evict a)) ∧ Fr (rfoot g R pv) w w') := Lib.hid (fun W y => by
      have hd := (h.dev.ext y).evictR ok hi fine 0 a
      unfold RefB.ptr at hd
      refine hd.mono ?_
      rintro e w' ⟨he, r, f⟩
      have q := ((RM.of h).ext y).devTo r f
      exact ⟨he, q.done (s.withDev (s.dev.evict a)) rfl rfl rfl⟩)
    generalize evictE s.dev a = er at *
    clear hW h ok fine hc H1 H2 H3 H4 H5 H8 HF
    have xt : Ext w (w.alloc (.cells #[.int .i64 6, .int .i64 t, .int .i64 a, .int .u64 z, .int .u64 x] 47)).drew := y0.drew
    clear y0
    go_enter Tryz.func13, Tryz.ntmps13
    go_wp2_with fail
    go_region_with (go_at_call 75; refine (HE.out _ (by first | exact xt | exact ((Ext.refl w).drew).alloc _ | exact ((Ext.refl w).alloc _).drew)).mono ?_; rintro e w1 ⟨rfl, m1, f1⟩; have M1 := Lib.hid m1; have F1 := Lib.hid f1; clear m1 f1)
    all_goals
      go_wp2_with fail
      refine bodyPost_ret (results_none rfl _ _ _) rfl ?_
      exact ⟨⟨_, rfl⟩, M1.out, F1.out⟩
  · have E := Lib.hid (show s.act k t a z x = s.crash by unfold MSt.act; rw [if_neg k1, if_neg k2, if_neg k3, if_neg k4, if_neg k5, if_neg k6])
    have d6 : decide (k = 6) = false := by simp [k6]
    have t6 : (k == 6) = false := by simp [k6]
    clear y0 hW h ok fine hc
    by_cases hlow : 1 ≤ k
    · have hhi : ¬ k ≤ 5 := by omega
      have q1 : decide (1 ≤ k) = true := by simp; omega
      have q2 : decide (k ≤ 5) = false := by simp; omega
      clear k1 k2 k3 k4 k5
      go_enter Tryz.func13, Tryz.ntmps13
      go_wp2_with fail
      refine H8.out.mono ?_
      rintro e w1 ⟨⟨u, rfl⟩, m1, f1⟩
      have M1 := Lib.hid m1
      have F1 := Lib.hid (HF.out _ f1)
      clear m1 f1
      go_wp2_with fail
      refine bodyPost_end (results_none rfl _ _ _) rfl ?_
      rw [E.out]
      exact ⟨⟨_, rfl⟩, M1.out, F1.out⟩
    · have q1 : decide (1 ≤ k) = false := by simp; omega
      clear k1 k2 k3 k4 k5
      go_enter Tryz.func13, Tryz.ntmps13
      go_wp2_with fail
      refine H8.out.mono ?_
      rintro e w1 ⟨⟨u, rfl⟩, m1, f1⟩
      have M1 := Lib.hid m1
      have F1 := Lib.hid (HF.out _ f1)
      clear m1 f1
      go_wp2_with fail
      refine bodyPost_end (results_none rfl _ _ _) rfl ?_
      rw [E.out]
      exact ⟨⟨_, rfl⟩, M1.out, F1.out⟩
end
end Go.Proofs.YtbicloceaddinaaGreat

