/- A memory's accesses: what is put, what is noted, and Load, Store, Swap. Conditions: those that each theorem names. -/
import Derived.Test.YtcelhllhdkminaaPm2
namespace Go.Proofs.Ytcelhllhdkminaa
open Go.ChangeShapes Go.WideShapes Go.ChangeAt Go.RowKit
set_option linter.unusedVariables false
section
variable {Q : Nat → Prop} {wb w0 w w' : World} {gm : Nat} {dv pv : Value} {s : MSt}
/-- The device has turned, its pointer stays. -/
theorem IsMem.devTo (h : IsMem Q wb w0 w gm dv pv s) {d : DSt} (a : AtQ (memQ Q gm pv) w w0 w' dv d) : IsMem Q wb w0 w' gm dv pv { s with dev := d } where
  g0 := h.g0
  blk := by
    have := (a.held.2 gm (Or.inl rfl)).2
    unfold Blk
    rw [this]
    exact h.blk
  pas := by
    refine (RowN.kept (RowN.of_row h.pas) fun g hg => ?_).row
    exact (a.held.2 g (Or.inr (Or.inl hg))).2
  dev := a.rebase
  pm := h.pm
  q := fun g hg => ⟨(h.q g hg).1, (h.q g hg).2.1, (a.held.2 g (Or.inr (Or.inr hg))).2.trans (h.q g hg).2.2⟩
  lp := h.lp
  ll := h.ll
/-- A word stored among the passing ones. -/
theorem IsMem.pasTo (h : IsMem Q wb w0 w gm dv pv s) {g c j : Nat} (e : pv = .slice (some ⟨g, 0, none⟩) s.pas.length c) (x : Int) (hx : 0 ≤ x ∧ x < 18446744073709551616) : IsMem Q wb w0 (w.setCell ⟨g, j, none⟩ (.int .u64 x)) gm dv pv { s with pas := s.pas.set j x } := by
  have hg : pv.ownBlock = some g := by rw [e]; rfl
  have f : Fr (fun b => b = g) w (w.setCell ⟨g, j, none⟩ (.int .u64 x)) := Fr.setCell (S := fun b => b = g) (p := ⟨g, j, none⟩) (Fr.refl _ w) (Or.inl rfl) _
  have hlt := World.ownsRow.lt h.pas g hg
  have x' : Ext w0 (w.setCell ⟨g, j, none⟩ (.int .u64 x)) := h.lt.1.setCell hlt.1 _
  have hn : gm ≠ g := fun e2 => h.pm (by rw [hg, e2])
  refine ⟨h.g0, h.blk.far (p := ⟨g, j, none⟩) hn _, ?_, ?_, h.pm, ?_, ?_, ?_⟩
  · have hr : RowN w w0.heap.size 31 1 .u64 (.slice (some ⟨g, 0, none⟩) s.pas.length c) s.pas.length s.pas := by rw [← e]; exact RowN.of_row h.pas
    have h2 := hr.set (j := j) x
    rw [e]
    have h3 := h2
    unfold RowN at h3
    unfold Row
    rw [List.length_set]
    exact h3
  · refine h.dev.turnM x' f (fun b hb => Or.inr (Or.inl (by rw [hg, hb]))) (fun b hb => ⟨?_, Or.inl hb⟩)
    exact Nat.lt_of_lt_of_le (h.dev.held.2 b hb).1 f.size
  · intro b hb
    have hne : b ≠ g := fun e2 => (h.q b hb).2.1 (by rw [hg, e2])
    exact ⟨(h.q b hb).1, (h.q b hb).2.1, (f.block b (h.lt.2 b hb) hne).trans (h.q b hb).2.2⟩
  · rw [List.length_set]; exact h.lp
  · exact lim_set h.ll hx j
/-- The memory's own cells have turned. -/
theorem IsMem.blkTo (h : IsMem Q wb w0 w gm dv pv s) (s' : MSt) (hd : s'.dev = s.dev) (hp : s'.pas = s.pas) (hb : Blk w' gm 97 (memCells dv pv s')) (f : Fr (fun b => b = gm) w w') : IsMem Q wb w0 w' gm dv pv s' := by
  have x' : Ext w0 w' := f.ext h.lt.1 (fun g hg => by rw [hg]; exact h.g0)
  refine ⟨h.g0, hb, ?_, ?_, h.pm, ?_, ?_, ?_⟩
  · rw [hp]
    exact h.pas.fr f (fun g hg e => h.pm (by rw [← e]; exact hg))
  · rw [hd]
    exact h.dev.turnM x' f (fun b hb => Or.inl hb) (fun b hb => ⟨Nat.lt_of_lt_of_le (h.dev.held.2 b hb).1 f.size, Or.inl hb⟩)
  · intro b hb
    exact ⟨(h.q b hb).1, (h.q b hb).2.1, (f.block b (h.lt.2 b hb) (h.q b hb).1).trans (h.q b hb).2.2⟩
  · rw [hp]; exact h.lp
  · rw [hp]; exact h.ll
set_option maxRecDepth 100000 in
set_option maxHeartbeats 1000000 in
theorem IsMem.put_ok (h : IsMem Q wb w0 w gm dv pv s) (a x : Int) (h0 : -9223372036854775808 ≤ a) (h1 : a < 9223372036854775808) (hx : 0 ≤ x ∧ x < 18446744073709551616) (hp : peekB s a = true) :
    Calls Try.prog 72 #[.pointer (some ⟨gm, 0, none⟩), .int .i64 a, .int .u64 x] w fun e w' => (∃ u, e = .returned u) ∧ IsMem Q wb w0 w' gm dv pv (s.put a x) := by
  have c0 : w.cell? ⟨gm, 0, none⟩ = some dv := h.blk.cell 0
  have c1 : w.cell? ⟨gm, 1, none⟩ = some pv := h.blk.cell 1
  have lp := h.lp
  by_cases ha : 0 ≤ a
  · have HD := Lib.hid (h.dev.storeA a x hx)
    have HH := Lib.hid h
    have HE := Lib.hid (show s.put a x = { s with dev := s.dev.store a x } by unfold MSt.put; rw [if_pos ha])
    clear h c1
    go_enter Try.func72, Try.ntmps72
    go_wp2_with fail
    refine HD.out.mono ?_
    rintro e w' ⟨rfl, a1⟩
    have HR := Lib.hid (HH.out.devTo a1)
    clear a1
    go_wp2_with fail
    refine bodyPost_ret (results_none rfl _ _ _) rfl ?_
    rw [HE.out]
    exact ⟨⟨_, rfl⟩, HR.out⟩
  · have hn : a < 0 := by omega
    have hp2 : -1 - a < (s.pas.length : Int) := by unfold peekB at hp; rw [if_neg ha] at hp; simpa using hp
    have HP := Lib.hid (fun W => passingAt_any a W h0 hn)
    obtain ⟨j, hj⟩ := Int.eq_ofNat_of_zero_le (show 0 ≤ -1 - a by omega)
    have HE := Lib.hid (show s.put a x = { s with pas := s.pas.set j x } by unfold MSt.put; rw [if_neg ha, hj]; rfl)
    rw [hj] at HP hp2
    obtain ⟨g, c, e, _, _, _, hgl⟩ := (RowN.of_row h.pas).at_ (by omega)
    have hfz : w.frozen? ⟨g, j, none⟩ = false := RowN.frozen (by rw [← e]; exact RowN.of_row h.pas) j
    have hcl : w.cell? ⟨g, j, none⟩ = some (.int .u64 (s.pas.getD j 0)) := RowN.cell (by rw [← e]; exact RowN.of_row h.pas) (by omega)
    have HR := Lib.hid ((h.ext ((Ext.refl w).drew)).pasTo (j := j) e x hx)
    have hjl : j < s.pas.length := by omega
    have hj2 : decide (j < s.pas.length) = true := by simp [hjl]
    have hj3 : (0 : Int) ≤ (j : Int) := by omega
    have HJ := Lib.hid hj
    rw [e] at c1
    have HG := Lib.hid e
    clear hj e h hp
    generalize s.pas.length = N at *
    go_enter Try.func72, Try.ntmps72
    go_wp2_with fail
    go_region_with (first | ((with_reducible refine (HP.out _).mono ?_); rintro e w' ⟨rfl, rfl⟩))
    all_goals
      go_wp2_with fail
      refine bodyPost_end (results_none rfl _ _ _) rfl ?_
      rw [HE.out]
      exact ⟨⟨_, rfl⟩, HR.out⟩
set_option maxRecDepth 100000 in
set_option maxHeartbeats 1000000 in
theorem IsMem.note_ok (h : IsMem Q wb w0 w gm dv pv s) (x : Acc) (b : Bool) (k0 : 0 ≤ s.clock) (k1 : s.clock ≤ 1000000000) (b0 : 0 ≤ s.bad) (b1 : s.bad ≤ 1000000000) :
    Calls Try.prog 98 #[.pointer (some ⟨gm, 0, none⟩), .agg #[.int .i64 x.k, .int .i64 x.t, .int .i64 x.a, .int .u64 x.o, .int .u64 x.n, .bool x.d], .bool b] w fun e w' => (∃ u, e = .returned u) ∧ IsMem Q wb w0 w' gm dv pv (s.note x b) := by
  obtain ⟨k, t, a, o, n, d⟩ := x
  obtain ⟨sd, sp, sc, sb, ⟨lk, lt, la, lo, ln, ld⟩⟩ := s
  have hb := h.blk
  unfold memCells at hb
  simp only at hb k0 k1 b0 b1 ⊢
  have c2 : w.cell? ⟨gm, 2, none⟩ = some (.int .i64 sc) := hb.cell 2
  have c3 : w.cell? ⟨gm, 3, none⟩ = some (.int .i64 sb) := hb.cell 3
  have hlt := hb.lt
  have hne : ¬ gm = w.heap.size := by omega
  have c4 : w.cell? ⟨gm, 4, none⟩ = some (.int .i64 lk) := hb.cell 4
  have c5 : w.cell? ⟨gm, 5, none⟩ = some (.int .i64 lt) := hb.cell 5
  have c6 : w.cell? ⟨gm, 6, none⟩ = some (.int .i64 la) := hb.cell 6
  have c7 : w.cell? ⟨gm, 7, none⟩ = some (.int .u64 lo) := hb.cell 7
  have c8 : w.cell? ⟨gm, 8, none⟩ = some (.int .u64 ln) := hb.cell 8
  have c9 : w.cell? ⟨gm, 9, none⟩ = some (.bool ld) := hb.cell 9
  have f2 : w.frozen? ⟨gm, 2, none⟩ = false := hb.frozen 2
  have f3 : w.frozen? ⟨gm, 3, none⟩ = false := hb.frozen 3
  have f4 : w.frozen? ⟨gm, 4, none⟩ = false := hb.frozen 4
  have f5 : w.frozen? ⟨gm, 5, none⟩ = false := hb.frozen 5
  have f6 : w.frozen? ⟨gm, 6, none⟩ = false := hb.frozen 6
  have f7 : w.frozen? ⟨gm, 7, none⟩ = false := hb.frozen 7
  have f8 : w.frozen? ⟨gm, 8, none⟩ = false := hb.frozen 8
  have f9 : w.frozen? ⟨gm, 9, none⟩ = false := hb.frozen 9
  have HH := Lib.hid h
  clear h hb
  cases b
  · go_enter Try.func98, Try.ntmps98
    go_wp2_with fail
    refine bodyPost_end (results_none rfl _ _ _) rfl ?_
    exact ⟨⟨_, rfl⟩, (HH.out.blkTo (MSt.note ⟨sd, sp, sc, sb, ⟨lk, lt, la, lo, ln, ld⟩⟩ ⟨k, t, a, o, n, d⟩ false) rfl rfl (((((((HH.out.blk.set 2 (.int .i64 (sc + 1))).set 4 (.int .i64 k)).set 5 (.int .i64 t)).set 6 (.int .i64 a)).set 7 (.int .u64 o)).set 8 (.int .u64 n)).set 9 (.bool d)) (Fr.setCell (p := ⟨gm, 9, none⟩) (Fr.setCell (p := ⟨gm, 8, none⟩) (Fr.setCell (p := ⟨gm, 7, none⟩) (Fr.setCell (p := ⟨gm, 6, none⟩) (Fr.setCell (p := ⟨gm, 5, none⟩) (Fr.setCell (p := ⟨gm, 4, none⟩) (Fr.setCell (p := ⟨gm, 2, none⟩) (Fr.refl (fun b => b = gm) w) (Or.inl rfl) (.int .i64 (sc + 1))) (Or.inl rfl) (.int .i64 k)) (Or.inl rfl) (.int .i64 t)) (Or.inl rfl) (.int .i64 a)) (Or.inl rfl) (.int .u64 o)) (Or.inl rfl) (.int .u64 n)) (Or.inl rfl) (.bool d))).ext ((Ext.refl _).alloc _)⟩
  · go_enter Try.func98, Try.ntmps98
    go_wp2_with fail
    refine bodyPost_end (results_none rfl _ _ _) rfl ?_
    exact ⟨⟨_, rfl⟩, (HH.out.blkTo (MSt.note ⟨sd, sp, sc, sb, ⟨lk, lt, la, lo, ln, ld⟩⟩ ⟨k, t, a, o, n, d⟩ true) rfl rfl ((((((((HH.out.blk.set 2 (.int .i64 (sc + 1))).set 3 (.int .i64 (sb + 1))).set 4 (.int .i64 k)).set 5 (.int .i64 t)).set 6 (.int .i64 a)).set 7 (.int .u64 o)).set 8 (.int .u64 n)).set 9 (.bool d)) (Fr.setCell (p := ⟨gm, 9, none⟩) (Fr.setCell (p := ⟨gm, 8, none⟩) (Fr.setCell (p := ⟨gm, 7, none⟩) (Fr.setCell (p := ⟨gm, 6, none⟩) (Fr.setCell (p := ⟨gm, 5, none⟩) (Fr.setCell (p := ⟨gm, 4, none⟩) (Fr.setCell (p := ⟨gm, 3, none⟩) (Fr.setCell (p := ⟨gm, 2, none⟩) (Fr.refl (fun b => b = gm) w) (Or.inl rfl) (.int .i64 (sc + 1))) (Or.inl rfl) (.int .i64 (sb + 1))) (Or.inl rfl) (.int .i64 k)) (Or.inl rfl) (.int .i64 t)) (Or.inl rfl) (.int .i64 a)) (Or.inl rfl) (.int .u64 o)) (Or.inl rfl) (.int .u64 n)) (Or.inl rfl) (.bool d))).ext ((Ext.refl _).alloc _)⟩
end
end Go.Proofs.Ytcelhllhdkminaa
