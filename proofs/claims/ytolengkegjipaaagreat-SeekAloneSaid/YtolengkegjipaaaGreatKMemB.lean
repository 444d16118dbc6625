/- The document's memory: Peek. Conditions: those that each theorem names. -/
import Derived.Test.YtolengkegjipaaaGreatKMemA
import Derived.Deep.DeepCutAuto
namespace Go.Proofs.YtolengkegjipaaaGreat
open Go.ChangeShapes Go.WideShapes Go.ChangeAt Go.RowKit
set_option linter.unusedVariables false
/-- The document's memory while a call goes on: its own cells may be others. -/
structure RM (B : Nat) (w0 w : World) (g : Nat) (R : RefB) (pv : Value) (cs : List Value) (d : DSt) (ps : List Int) : Prop where
  bg : B ≤ g
  blk : Blk w g 109 cs
  pas : Row w B 53 .u64 pv ps
  dev : RefAt B w R d
  pk : ∀ b, pv.ownBlock = some b → R.vk.ownBlock ≠ some b ∧ R.vs.ownBlock ≠ some b
  lp : ps.length ≤ 262144
  fr : Fr (rfoot g R pv) w0 w
  lo : ∀ b, rfoot g R pv b → b < w0.heap.size
section
variable {B g : Nat} {w0 w w' : World} {R : RefB} {pv : Value} {cs : List Value} {d : DSt} {pas : List Int} {s : MSt}
theorem RM.of (h : IsRMem B w g R pv s) : RM B w w g R pv (memCells R.ptr pv s) s.dev s.pas := ⟨h.bg, h.blk, h.pas, h.dev, h.pk, h.lp, Fr.refl _ _, fun b hb => (h.foot_lt hb).2⟩
theorem RM.done (h : RM B w0 w g R pv cs d pas) (s' : MSt) (hc : cs = memCells R.ptr pv s') (hd : d = s'.dev) (hp : pas = s'.pas) : IsRMem B w g R pv s' ∧ Fr (rfoot g R pv) w0 w := by
  subst hc hd hp
  exact ⟨⟨h.bg, h.blk, h.pas, h.dev, h.pk, h.lp⟩, h.fr⟩
theorem RM.kept (h : RM B w0 w g R pv cs d pas) {S : Nat → Prop} (f : Fr S w w') (hS : ∀ b, rfoot g R pv b → ¬ S b) (hS2 : ∀ b, S b → w0.heap.size ≤ b) : RM B w0 w' g R pv cs d pas :=
  ⟨h.bg, h.blk.fr f (hS _ (Or.inl rfl)), h.pas.fr f (fun b hb => hS b (Or.inr (Or.inl hb))), h.dev.fr f (fun b hb => hS b (Or.inr (Or.inr hb))), h.pk, h.lp, h.fr.trans f (fun b hb hs => absurd (hS2 b hs) (by omega)), h.lo⟩
theorem RM.ext (h : RM B w0 w g R pv cs d pas) (x : Ext w w') : RM B w0 w' g R pv cs d pas := h.kept (S := fun _ => False) (Fr.of_ext x) (fun _ _ hs => hs) (fun _ hs => hs.elim)
theorem RM.alloc (h : RM B w0 w g R pv cs d pas) (o : Obj) : RM B w0 (w.alloc o) g R pv cs d pas := h.ext ((Ext.refl w).alloc o)
theorem RM.drew (h : RM B w0 w g R pv cs d pas) : RM B w0 w.drew g R pv cs d pas := h.ext ((Ext.refl w).drew)
theorem RM.off (h : RM B w0 w g R pv cs d pas) : ¬ R.foot g ∧ pv.ownBlock ≠ some g ∧ ∀ b, pv.ownBlock = some b → ¬ R.foot b := by
  have hi := h.dev.is
  refine ⟨?_, h.pas.blk h.blk (by decide), ?_⟩
  · rintro (e | e | e | e | e | e)
    · exact hi.blk.ne h.blk (by decide) e.symm
    · exact hi.kept.blk h.blk (by decide) e
    · exact hi.seen.blk h.blk (by decide) e
    · exact hi.writes.blk h.blk (by decide) (by rw [e]; rfl)
    · exact hi.flr.blk h.blk (by decide) e
    · obtain ⟨t, ht, rfl⟩ := List.getElem_of_mem e
      have := hi.row t ht
      rw [List.getD_eq_getElem?_getD, List.getElem?_eq_getElem ht] at this
      exact this.ne h.blk (by decide) rfl
  · intro b hb
    rintro (e | e | e | e | e | e)
    · exact h.pas.blk hi.blk (by decide) (by rw [hb, e])
    · exact (h.pk b hb).1 e
    · exact (h.pk b hb).2 e
    · exact h.pas.row2 hi.writes (by decide) b hb (by rw [e]; rfl)
    · exact h.pas.row hi.flr (by decide) b hb e
    · obtain ⟨t, ht, rfl⟩ := List.getElem_of_mem e
      have := hi.row t ht
      rw [List.getD_eq_getElem?_getD, List.getElem?_eq_getElem ht] at this
      exact h.pas.blk this (by decide) hb
/-- A store into its own block. -/
theorem RM.set (h : RM B w0 w g R pv cs d pas) (i : Nat) (u : Value) : RM B w0 (w.setCell ⟨g, i, none⟩ u) g R pv (cs.set i u) d pas := by
  have f := Fr.setCell (S := fun b => b = g) (p := ⟨g, i, none⟩) (Fr.refl _ w) (Or.inl rfl) u
  obtain ⟨o1, o2, o3⟩ := h.off
  exact ⟨h.bg, h.blk.set i u, h.pas.fr f (fun b hb e => o2 (by rw [← e]; exact hb)), h.dev.fr f (fun b hb e => o1 (by rw [← e]; exact hb)), h.pk, h.lp, h.fr.trans f (fun b _ e => Or.inl e), h.lo⟩
/-- What was done to its device. -/
theorem RM.devTo (h : RM B w0 w g R pv cs d pas) {d' : DSt} (hd : RefAt B w' R d') (f : Fr R.foot w w') : RM B w0 w' g R pv cs d' pas := by
  obtain ⟨o1, o2, o3⟩ := h.off
  exact ⟨h.bg, h.blk.fr f o1, h.pas.fr f o3, hd, h.pk, h.lp, h.fr.trans f (fun b _ e => Or.inr (Or.inr e)), h.lo⟩
/-- A store among the passing words. -/
theorem RM.pasTo (h : RM B w0 w g R pv cs d pas) {gp c : Nat} (e : pv = .slice (some ⟨gp, 0, none⟩) pas.length c) (j : Nat) (x : Int) : RM B w0 (w.setCell ⟨gp, j, none⟩ (.int .u64 x)) g R pv cs d (pas.set j x) := by
  have f := Fr.setCell (S := fun b => b = gp) (p := ⟨gp, j, none⟩) (Fr.refl _ w) (Or.inl rfl) (.int .u64 x)
  have hg : pv.ownBlock = some gp := by rw [e]; rfl
  obtain ⟨o1, o2, o3⟩ := h.off
  refine ⟨h.bg, h.blk.fr f (fun e2 => o2 (by rw [e2]; exact hg)), ?_, h.dev.fr f (fun b hb e2 => o3 gp hg (by rw [← e2]; exact hb)), h.pk, by rw [List.length_set]; exact h.lp, h.fr.trans f (fun b _ e2 => Or.inr (Or.inl (by rw [e2]; exact hg))), h.lo⟩
  have hr : RowN w B 53 1 .u64 (.slice (some ⟨gp, 0, none⟩) pas.length c) pas.length pas := by rw [← e]; exact RowN.of_row h.pas
  have h3 := hr.set (j := j) x
  rw [e]
  unfold RowN at h3
  unfold Row
  rw [List.length_set]
  exact h3
/-- A store among the words that are seen. -/
theorem RM.seenTo (h : RM B w0 w g R pv cs d pas) (n0 : 0 < d.n) {gs c : Nat} (e : R.vs = .slice (some ⟨gs, 0, none⟩) (d.n * 8) c) (p : Nat) (x : Int) : RM B w0 (w.setCell ⟨gs, p, none⟩ (.int .u64 x)) g R pv cs { d with seen := d.seen.set p x } pas := by
  obtain ⟨h1, f⟩ := h.dev.store n0 e p x
  exact h.devTo h1 f
set_option maxRecDepth 100000 in
set_option maxHeartbeats 2000000 in
theorem refPeek_ok (h : IsRMem B w g R pv s) (ok : Sound s.dev) (a : Int) (h0 : -9223372036854775808 ≤ a) (h1 : a < 9223372036854775808) :
    Calls Tryz.prog 52 #[.pointer (some ⟨g, 0, none⟩), .int .i64 a] w fun e w' => e = .returned (.tuple #[.int .u64 (peekV s a), .bool (peekB s a)]) ∧ w = w' := by
  have c0 : w.cell? ⟨g, 0, none⟩ = some (.pointer (some ⟨R.g, 0, none⟩)) := h.blk.cell 0
  have c1 : w.cell? ⟨g, 1, none⟩ = some pv := h.blk.cell 1
  have lp := h.lp
  have n1 := ok.n1
  obtain ⟨gk, ck, gs, cs, gf, cf, e1, e2, e3⟩ := h.dev.sh ok.n0 ok.T0
  have d1 : w.cell? ⟨R.g, 1, none⟩ = some (.slice (some ⟨gs, 0, none⟩) (s.dev.n * 8) cs) := by rw [← e2]; exact h.dev.is.blk.cell 1
  have hsl := h.dev.ls
  by_cases ha : 0 ≤ a
  · have E1 : peekV s a = loadV s.dev a := by unfold peekV; rw [if_pos ha]
    have E2 : peekB s a = decide (a < (s.dev.n : Int) * 8) := by unfold peekB; rw [if_pos ha]
    rw [E1, E2]
    clear E1 E2 c1
    obtain ⟨p, rfl⟩ := Int.eq_ofNat_of_zero_le ha
    by_cases hl : (p : Int) < (s.dev.n : Int) * 8
    · have hp : p < s.dev.n * 8 := by omega
      have hcp : w.cell? ⟨gs, p, none⟩ = some (.int .u64 (s.dev.seen.getD p 0)) := RowN.cell (n := s.dev.n * 8) (c := cs) (by have := RowN.of_row h.dev.is.seen; rw [e2, hsl] at this; exact this) (by omega)
      rw [show loadV s.dev (p : Int) = s.dev.seen.getD p 0 by unfold loadV; rw [if_pos ⟨ha, hl⟩]; rfl, decide_eq_true hl]
      generalize s.dev.seen.getD p 0 = x at *
      clear h hsl e1 e2 e3 ha
      generalize hL : s.dev.n * 8 = L at *
      have u2 : (p : Int) < (L : Int) := by omega
      have u3 : decide (p < L) = true := by simp; omega
      have u4 : (0 : Int) ≤ (p : Int) := by omega
      clear hl hL
      go_enter Tryz.func52, Tryz.ntmps52
      go_wp2_with fail
      go_ret2
      exact ⟨rfl, rfl⟩
    · rw [show loadV s.dev (p : Int) = 0 by unfold loadV; rw [if_neg (fun hh => hl hh.2)], decide_eq_false hl]
      clear h hsl e1 e2 e3 ha
      generalize hL : s.dev.n * 8 = L at *
      have u2 : ¬ (p : Int) < (L : Int) := by omega
      have u3 : decide (p < L) = false := by simp; omega
      have u4 : (0 : Int) ≤ (p : Int) := by omega
      have u5 : ¬ (p : Int) < 0 := by omega
      clear hl hL
      go_enter Tryz.func52, Tryz.ntmps52
      go_wp2_with fail
      go_ret2
      exact ⟨rfl, rfl⟩
  · have hn : a < 0 := by omega
    have E1 : peekV s a = s.pas.getD (-1 - a).toNat 0 := by unfold peekV; rw [if_neg ha]
    have E2 : peekB s a = decide (-1 - a < (s.pas.length : Int)) := by unfold peekB; rw [if_neg ha]
    rw [E1, E2]
    clear E1 E2
    by_cases hl : -1 - a < (s.pas.length : Int)
    · obtain ⟨j, hj⟩ := Int.eq_ofNat_of_zero_le (show 0 ≤ -1 - a by omega)
      obtain ⟨gp, c, e, _, _, _, hgl⟩ := (RowN.of_row h.pas).at_ (by omega)
      have hcl : w.cell? ⟨gp, j, none⟩ = some (.int .u64 (s.pas.getD j 0)) := RowN.cell (by rw [← e]; exact RowN.of_row h.pas) (by omega)
      rw [decide_eq_true hl, hj]
      rw [show ((j : Int)).toNat = j from rfl]
      rw [e] at c1
      generalize s.pas.getD j 0 = x at *
      clear h hsl e1 e2 e3 e d1
      generalize s.pas.length = N at *
      have u1 : -(N : Int) ≤ a := by omega
      have u3 : decide (-(N : Int) ≤ a) = true := by simp; omega
      obtain rfl : a = -1 - (j : Int) := by omega
      have u5 : -1 - (-1 - (j : Int)) = (j : Int) := by omega
      have u6 : j < N := by omega
      have u7 : decide (j < N) = true := by simp; omega
      go_enter Tryz.func52, Tryz.ntmps52
      go_wp2_with fail
      go_ret2
      exact ⟨rfl, rfl⟩
    · rw [decide_eq_false hl]
      rw [show s.pas.getD (-1 - a).toNat 0 = 0 by rw [List.getD_eq_getElem?_getD, List.getElem?_eq_none (by omega)]; rfl]
      obtain ⟨A, c, e, _, _⟩ := h.pas.form
      rw [e] at c1
      clear h hsl e1 e2 e3 e d1
      generalize s.pas.length = N at *
      have u1 : ¬ -(N : Int) ≤ a := by omega
      have u3 : decide (-(N : Int) ≤ a) = false := by simp; omega
      go_enter Tryz.func52, Tryz.ntmps52
      go_wp2_with fail
      go_ret2
      exact ⟨rfl, rfl⟩
end
end Go.Proofs.YtolengkegjipaaaGreat


/- The document's memory: Do. Conditions: those that each theorem names. -/
namespace Go.Proofs.YtolengkegjipaaaGreat
open Go.ChangeShapes Go.WideShapes Go.ChangeAt Go.RowKit
set_option linter.unusedVariables false
/-- What is told of an access. -/
def accV (x : Acc) : Value := .agg #[.int .i64 x.k, .int .i64 x.t, .int .i64 x.a, .int .u64 x.o, .int .u64 x.n, .bool x.d]
section
variable {B g : Nat} {w : World} {R : RefB} {pv : Value} {s : MSt}
set_option maxRecDepth 100000 in
set_option maxHeartbeats 2000000 in
theorem refStore7v (h : IsRMem B w g R pv s) (ok : Sound s.dev) (hc : Calm s) (t a z x : Int) (h0 : -9223372036854775808 ≤ a) (h1 : a < 9223372036854775808) :
    Calls Tryz.prog 30 #[.pointer (some ⟨g, 0, none⟩), .int .i64 2, .int .i64 t, .int .i64 a, .int .u64 z, .int .u64 x] w fun e w' => e = .returned (accV (s.store t a x).last) ∧ IsRMem B w' g R pv (s.store t a x) ∧ Fr (rfoot g R pv) w w' := by
  have HP := Lib.hid (fun (W : World) (y : Ext w W) => refPeek_ok (h.ext y) ok a h0 h1)
  have HR := Lib.hid (RM.of h)
  have hg : g < w.heap.size := h.blk.lt
  have hg2 : ¬ g = w.heap.size := by omega
  have hg3 : ¬ w.heap.size = g := by omega
  have hg4 : ¬ g = w.heap.size + 1 := by omega
  have hg5 : ¬ w.heap.size + 1 = g := by omega
  obtain ⟨k0, k1, b0, b1⟩ := hc
  have c0 : w.cell? ⟨g, 0, none⟩ = some (.pointer (some ⟨R.g, 0, none⟩)) := h.blk.cell 0
  have c2 : w.cell? ⟨g, 2, none⟩ = some (.int .i64 s.clock) := h.blk.cell 2
  have c3 : w.cell? ⟨g, 3, none⟩ = some (.int .i64 s.bad) := h.blk.cell 3
  have c4 : w.cell? ⟨g, 4, none⟩ = some (.int .i64 s.last.k) := h.blk.cell 4
  have c5 : w.cell? ⟨g, 5, none⟩ = some (.int .i64 s.last.t) := h.blk.cell 5
  have c6 : w.cell? ⟨g, 6, none⟩ = some (.int .i64 s.last.a) := h.blk.cell 6
  have c7 : w.cell? ⟨g, 7, none⟩ = some (.int .u64 s.last.o) := h.blk.cell 7
  have c8 : w.cell? ⟨g, 8, none⟩ = some (.int .u64 s.last.n) := h.blk.cell 8
  have c9 : w.cell? ⟨g, 9, none⟩ = some (.bool s.last.d) := h.blk.cell 9
  have f2 : w.frozen? ⟨g, 2, none⟩ = false := h.blk.frozen 2
  have f3 : w.frozen? ⟨g, 3, none⟩ = false := h.blk.frozen 3
  have f4 : w.frozen? ⟨g, 4, none⟩ = false := h.blk.frozen 4
  have f5 : w.frozen? ⟨g, 5, none⟩ = false := h.blk.frozen 5
  have f6 : w.frozen? ⟨g, 6, none⟩ = false := h.blk.frozen 6
  have f7 : w.frozen? ⟨g, 7, none⟩ = false := h.blk.frozen 7
  have f8 : w.frozen? ⟨g, 8, none⟩ = false := h.blk.frozen 8
  have f9 : w.frozen? ⟨g, 9, none⟩ = false := h.blk.frozen 9
  cases hp : peekB s a
  · rw [hp] at HP
    have E := Lib.hid (show s.store t a x = s.note ⟨2, t, a, 0, x, false⟩ true by unfold MSt.store; rw [hp]; rfl)
    have E2 := Lib.hid (peekV_no hp)
    rw [E2.out] at HP
    clear h ok hp
    go_enter Tryz.func30, Tryz.ntmps30
    go_wp2_with fail
    refine (HP.out _ (by exact ext2 w _ _)).mono ?_
    rintro e w' ⟨rfl, rfl⟩
    go_wp2_with fail
    rw [E.out]
    refine bodyPost_ret (v := .agg #[.int .i64 2, .int .i64 t, .int .i64 a, .int .u64 0, .int .u64 x, .bool false]) (by simp [results, Tryz.results30, go_sem]) rfl ⟨rfl, ?_⟩
    exact ((((((((((HR.out.set 2 (.int .i64 (s.clock + 1))).set 3 (.int .i64 (s.bad + 1))).set 4 (.int .i64 2)).set 5 (.int .i64 t)).set 6 (.int .i64 a)).set 7 (.int .u64 0)).set 8 (.int .u64 x)).set 9 (.bool false)).alloc _).alloc _).done (s.note ⟨2, t, a, 0, x, false⟩ true) rfl rfl rfl
  · rw [hp] at HP
    have E := Lib.hid (show s.store t a x = (s.put a x).note ⟨2, t, a, peekV s a, x, true⟩ false by unfold MSt.store; rw [if_pos hp])
    generalize peekV s a = y at *
    by_cases ha : 0 ≤ a
    · obtain ⟨gk, ck, gs, cs, gf, cf, e1, e2, e3⟩ := h.dev.sh ok.n0 ok.T0
      have d1 : w.cell? ⟨R.g, 1, none⟩ = some (.slice (some ⟨gs, 0, none⟩) (s.dev.n * 8) cs) := by rw [← e2]; exact h.dev.is.blk.cell 1
      have hsl := h.dev.ls
      have hl : a < (s.dev.n : Int) * 8 := by unfold peekB at hp; rw [if_pos ha] at hp; simpa using hp
      obtain ⟨p, rfl⟩ := Int.eq_ofNat_of_zero_le ha
      have hpl : p < s.dev.n * 8 := by omega
      have hsr : RowN w B 53 1 .u64 (.slice (some ⟨gs, 0, none⟩) (s.dev.n * 8) cs) (s.dev.n * 8) s.dev.seen := by have := RowN.of_row h.dev.is.seen; rw [e2, hsl] at this; exact this
      have hcp : w.cell? ⟨gs, p, none⟩ = some (.int .u64 (s.dev.seen.getD p 0)) := RowN.cell hsr (by omega)
      have hfp : w.frozen? ⟨gs, p, none⟩ = false := RowN.frozen hsr p
      have hgs : gs < w.heap.size := (World.ownsRow.lt hsr gs rfl).2
      have hRg : R.g < w.heap.size := h.dev.is.blk.lt
      have hRg2 : ¬ R.g = w.heap.size := by omega
      have hRg3 : ¬ R.g = w.heap.size + 1 := by omega
      have q1 : ¬ gs = w.heap.size := by omega
      have q2 : ¬ gs = w.heap.size + 1 := by omega
      have q3 : ¬ w.heap.size = gs := by omega
      have q4 : ¬ w.heap.size + 1 = gs := by omega
      have q5 : ¬ gs = g := fun e => HR.out.off.1 (Or.inr (Or.inr (Or.inl (by rw [e2, ← e]; rfl))))
      have q6 : ¬ g = gs := fun e => q5 e.symm
      have ES := Lib.hid (show s.put (p : Int) x = { s with dev := { s.dev with seen := s.dev.seen.set p x } } by unfold MSt.put DSt.store; rw [if_pos ha, if_pos ⟨ha, hl⟩]; rfl)
      have RS := Lib.hid (HR.out.seenTo ok.n0 e2 p x)
      rw [ES.out] at E
      generalize s.dev.seen.getD p 0 = yy at *
      clear h hsl e1 e2 e3 ha hp hsr ok HR
      generalize hL : s.dev.n * 8 = L at *
      clear hl hL h0 h1
      go_enter Tryz.func30, Tryz.ntmps30
      go_wp2_with fail
      refine (HP.out _ (by exact ext2 w _ _)).mono ?_
      rintro e w' ⟨rfl, rfl⟩
      go_wp2_with fail
      rw [E.out]
      refine bodyPost_ret (v := .agg #[.int .i64 2, .int .i64 t, .int .i64 (p : Int), .int .u64 y, .int .u64 x, .bool true]) (by simp [results, Tryz.results30, go_sem]) rfl ⟨rfl, ?_⟩
      exact (((((((((RS.out.set 2 (.int .i64 (s.clock + 1))).set 4 (.int .i64 2)).set 5 (.int .i64 t)).set 6 (.int .i64 (p : Int))).set 7 (.int .u64 y)).set 8 (.int .u64 x)).set 9 (.bool true)).alloc _).alloc _).done ({ s with dev := { s.dev with seen := s.dev.seen.set p x } }.note ⟨2, t, (p : Int), y, x, true⟩ false) rfl rfl rfl
    · have hn : a < 0 := by omega
      have hl : -1 - a < (s.pas.length : Int) := by unfold peekB at hp; rw [if_neg ha] at hp; simpa using hp
      obtain ⟨j, hj⟩ := Int.eq_ofNat_of_zero_le (show 0 ≤ -1 - a by omega)
      obtain ⟨gp, c, e, _, _, _, hgl⟩ := (RowN.of_row h.pas).at_ (by omega)
      have c1 : w.cell? ⟨g, 1, none⟩ = some pv := h.blk.cell 1
      rw [e] at c1
      have hcl : w.cell? ⟨gp, j, none⟩ = some (.int .u64 (s.pas.getD j 0)) := RowN.cell (by rw [← e]; exact RowN.of_row h.pas) (by omega)
      have hfp : w.frozen? ⟨gp, j, none⟩ = false := RowN.frozen (by rw [← e]; exact RowN.of_row h.pas) j
      have q1 : ¬ gp = w.heap.size := by omega
      have q2 : ¬ gp = w.heap.size + 1 := by omega
      have q3 : ¬ w.heap.size = gp := by omega
      have q4 : ¬ w.heap.size + 1 = gp := by omega
      have q5 : ¬ gp = g := fun e5 => HR.out.off.2.1 (by rw [e, ← e5]; rfl)
      have q6 : ¬ g = gp := fun e => q5 e.symm
      have ES := Lib.hid (show s.put a x = { s with pas := s.pas.set j x } by unfold MSt.put; rw [if_neg ha, hj]; rfl)
      have RS := Lib.hid (HR.out.pasTo e j x)
      rw [ES.out] at E
      generalize s.pas.getD j 0 = yy at *
      have EE := Lib.hid e
      clear h e hp ok HR
      generalize hN : s.pas.length = N at *
      obtain rfl : a = -1 - (j : Int) := by omega
      have u5 : -1 - (-1 - (j : Int)) = (j : Int) := by omega
      have u6 : j < N := by omega
      have u7 : decide (j < N) = true := by simp; omega
      go_enter Tryz.func30, Tryz.ntmps30
      go_wp2_with fail
      refine (HP.out _ (by exact ext2 w _ _)).mono ?_
      rintro e w' ⟨rfl, rfl⟩
      go_wp2_with fail
      rw [E.out]
      refine bodyPost_ret (v := .agg #[.int .i64 2, .int .i64 t, .int .i64 (-1 - (j : Int)), .int .u64 y, .int .u64 x, .bool true]) (by simp [results, Tryz.results30, go_sem]) rfl ⟨rfl, ?_⟩
      exact (((((((((RS.out.set 2 (.int .i64 (s.clock + 1))).set 4 (.int .i64 2)).set 5 (.int .i64 t)).set 6 (.int .i64 (-1 - (j : Int)))).set 7 (.int .u64 y)).set 8 (.int .u64 x)).set 9 (.bool true)).alloc _).alloc _).done ({ s with pas := s.pas.set j x }.note ⟨2, t, (-1 - (j : Int)), y, x, true⟩ false) rfl rfl rfl
theorem refStore7 (h : IsRMem B w g R pv s) (ok : Sound s.dev) (hc : Calm s) (t a z x : Int) (h0 : -9223372036854775808 ≤ a) (h1 : a < 9223372036854775808) :
    Calls Tryz.prog 30 #[.pointer (some ⟨g, 0, none⟩), .int .i64 2, .int .i64 t, .int .i64 a, .int .u64 z, .int .u64 x] w fun e w' => (∃ u, e = .returned u) ∧ IsRMem B w' g R pv (s.store t a x) ∧ Fr (rfoot g R pv) w w' :=
  (refStore7v h ok hc t a z x h0 h1).mono fun e w' hh => ⟨⟨_, hh.1⟩, hh.2⟩
end
end Go.Proofs.YtolengkegjipaaaGreat


/- The document's memory: Do of a flush and a fence; Crash. Conditions: those that each theorem names. -/
namespace Go.Proofs.YtolengkegjipaaaGreat
open Go.ChangeShapes Go.WideShapes Go.ChangeAt Go.RowKit
set_option linter.unusedVariables false
section
variable {B g : Nat} {w : World} {R : RefB} {pv : Value} {s : MSt}
end
end Go.Proofs.YtolengkegjipaaaGreat


/- The document's memory: Crash; an act on it (limekilnlaw07.Must). Conditions: those that each theorem names. -/
namespace Go.Proofs.YtolengkegjipaaaGreat
open Go.ChangeShapes Go.WideShapes Go.ChangeAt Go.RowKit
set_option linter.unusedVariables false
section
variable {B g : Nat} {w : World} {R : RefB} {pv : Value} {s : MSt}
end
end Go.Proofs.YtolengkegjipaaaGreat

