/- Memory: Crash, Writes; an act of layer 7 on a memory (limekilnlaw07.Do). Conditions: those that each theorem names. -/
import Derived.Test.YtbicloceaddinaaGreatKPmB
import Derived.Test.YtbicloceaddinaaGreatKRefB
import Derived.Test.YtbicloceaddinaaGreatKRefA
import Derived.Test.YtbicloceaddinaaGreatKFen
namespace Go.Proofs.YtbicloceaddinaaGreat
open Go.ChangeShapes Go.WideShapes Go.ChangeAt Go.RowKit
set_option linter.unusedVariables false
/-- clear(passing). -/
theorem clear_words {w : World} {B : Nat} {pv : Value} {zs : List Int} (ty : TypeId) (h : Row w B 45 .u64 pv zs) :
    ∃ w', (Builtin.clear_ #[103] ty #[pv]).run Tryz.prog w = .ok (.tuple #[]) w' ∧ Row w' B 45 .u64 pv (List.replicate zs.length 0) ∧ Fr (fun b => pv.ownBlock = some b) w w' := by
  obtain ⟨i, hi, hz0, hz1, hz2⟩ := info_parts word_info
  rcases h.2 with ⟨rfl, h0⟩ | ⟨g, cap, cur, rfl, hg, hh, hnc, hcm, hcs, ht⟩
  · refine ⟨w, ?_, ?_, Fr.refl _ w⟩
    · simp [Builtin.clear_, run_underlying Tryz.underlying103]
    · rw [h0]
      exact Row.nil _ _ _ _
  · obtain ⟨n, hn⟩ : ∃ n, zs.length = n := ⟨_, rfl⟩
    rw [hn] at hnc ht h ⊢
    cases n with
    | zero =>
      refine ⟨w, ?_, ?_, Fr.refl _ w⟩
      · simp [Builtin.clear_, run_underlying Tryz.underlying103]
      · refine ⟨by simp, Or.inr ⟨g, cap, cur, by simp, hg, hh, by simp, hcm, hcs, by simp⟩⟩
    | succ n =>
      have hst := run_storeCells_at Tryz.prog g 0 45 (List.replicate (n + 1) (Value.int .u64 0)) 0 cur w hh (by simp; omega) (by intro v hv; rw [(List.mem_replicate.1 hv).2]; rfl)
      rw [show (0 : Nat) + 0 = 0 from rfl, List.take_zero, List.nil_append, List.length_replicate, Nat.zero_add] at hst
      have hzc : (Builtin.zeroCells (Value.int .u64 0).cells (n + 1)).toList = List.replicate (n + 1) (Value.int .u64 0) := by
        show (Builtin.zeroCells #[Value.int .u64 0] (n + 1)).toList = _
        unfold Builtin.zeroCells
        apply List.ext_getElem
        · simp
        · intro j h1 h2
          simp [Nat.mod_one]
      refine ⟨w.setRow g (List.replicate (n + 1) (Value.int .u64 0) ++ List.drop (n + 1) cur.toList).toArray, ?_, ?_, setRow_fr w g _ |>.mono (fun b _ e => by rw [e]; rfl)⟩
      · simp [Builtin.clear_, run_underlying Tryz.underlying103, zeroValue, typeInfo, hi, hz0]
        rw [hzc, hst]
        rfl
      · refine ⟨by simp, Or.inr ⟨g, cap, _, by simp, hg, setRow_heap w g cur _ _ _ hh, by simpa using hnc, hcm, ?_, ?_⟩⟩
        · simp; omega
        · simp
theorem lim_zero (n : Nat) : Lim (List.replicate n 0) 18446744073709551616 := by
  intro j hj
  simp only [List.length_replicate] at hj
  simp [List.getD_eq_getElem?_getD, hj]
def MSt.crash (s : MSt) : MSt := { s with dev := s.dev.crashed, pas := List.replicate s.pas.length 0, last := ⟨0, 0, 0, 0, 0, false⟩ }
section
variable {Q : Nat → Prop} {wb w0 w w' : World} {gm : Nat} {dv pv : Value} {s : MSt}
/-- All passing words have turned. -/
theorem IsMem.pasAll (h : IsMem Q wb w0 w gm dv pv s) (zs : List Int) (hl : zs.length = s.pas.length) (hz : Lim zs 18446744073709551616) (hr : Row w' w0.heap.size 45 .u64 pv zs) (f : Fr (fun b => pv.ownBlock = some b) w w') : IsMem Q wb w0 w' gm dv pv { s with pas := zs } := by
  have x' : Ext w0 w' := f.ext h.lt.1 (fun g hg => (World.ownsRow.lt h.pas g hg).1)
  refine ⟨h.g0, h.blk.fr f h.pm, hr, ?_, h.pm, ?_, by show zs.length ≤ _; rw [hl]; exact h.lp, hz⟩
  · exact h.dev.turnM x' f (fun b hb => Or.inr (Or.inl hb)) (fun b hb => ⟨Nat.lt_of_lt_of_le (h.dev.held.2 b hb).1 f.size, Or.inl hb⟩)
  · intro b hb
    exact ⟨(h.q b hb).1, (h.q b hb).2.1, (f.block b (h.lt.2 b hb) (h.q b hb).2.1).trans (h.q b hb).2.2⟩
set_option maxRecDepth 100000 in
set_option maxHeartbeats 2000000 in
theorem memCrash_ok (h : IsMem Q wb w0 w gm dv pv s) :
    Calls Tryz.prog 74 #[.pointer (some ⟨gm, 0, none⟩)] w fun e w' => (∃ u, e = .returned u) ∧ IsMem Q wb w0 w' gm dv pv s.crash := by
  have c0 : w.cell? ⟨gm, 0, none⟩ = some dv := h.blk.cell 0
  have HC := Lib.hid h.dev.crash
  have HH := Lib.hid h
  clear h
  go_enter Tryz.func74, Tryz.ntmps74
  go_wp2_with fail
  refine HC.out.mono ?_
  rintro e w1 ⟨⟨u, rfl⟩, a1⟩
  have m1 := HH.out.devTo a1
  have c1 : w1.cell? ⟨gm, 1, none⟩ = some pv := m1.blk.cell 1
  obtain ⟨w2, r2, p2, f2⟩ := clear_words 0 m1.pas
  have m2 := m1.pasAll _ (by simp) (lim_zero _) p2 f2
  have M2 := Lib.hid m2
  have hb := m2.blk
  unfold memCells at hb
  simp only at hb
  have f4 : w2.frozen? ⟨gm, 4, none⟩ = false := hb.frozen 4
  have f5 : w2.frozen? ⟨gm, 5, none⟩ = false := hb.frozen 5
  have f6 : w2.frozen? ⟨gm, 6, none⟩ = false := hb.frozen 6
  have f7 : w2.frozen? ⟨gm, 7, none⟩ = false := hb.frozen 7
  have f8 : w2.frozen? ⟨gm, 8, none⟩ = false := hb.frozen 8
  have f9 : w2.frozen? ⟨gm, 9, none⟩ = false := hb.frozen 9
  have k4 : w2.cell? ⟨gm, 4, none⟩ = some (.int .i64 s.last.k) := hb.cell 4
  have k5 : w2.cell? ⟨gm, 5, none⟩ = some (.int .i64 s.last.t) := hb.cell 5
  have k6 : w2.cell? ⟨gm, 6, none⟩ = some (.int .i64 s.last.a) := hb.cell 6
  have k7 : w2.cell? ⟨gm, 7, none⟩ = some (.int .u64 s.last.o) := hb.cell 7
  have k8 : w2.cell? ⟨gm, 8, none⟩ = some (.int .u64 s.last.n) := hb.cell 8
  have k9 : w2.cell? ⟨gm, 9, none⟩ = some (.bool s.last.d) := hb.cell 9
  have hlt := hb.lt
  have hne : ¬ gm = w2.heap.size := by omega
  clear a1 m1 p2 f2 m2 hb HC HH
  go_wp2_with fail
  refine bodyPost_end (results_none rfl _ _ _) rfl ?_
  refine ⟨⟨_, rfl⟩, ?_⟩
  refine M2.out.blkTo s.crash rfl rfl ((((((M2.out.blk.set 4 (.int .i64 0)).set 5 (.int .i64 0)).set 6 (.int .i64 0)).set 7 (.int .u64 0)).set 8 (.int .u64 0)).set 9 (.bool false)) ?_
  exact Fr.setCell (p := ⟨gm, 9, none⟩) (Fr.setCell (p := ⟨gm, 8, none⟩) (Fr.setCell (p := ⟨gm, 7, none⟩) (Fr.setCell (p := ⟨gm, 6, none⟩) (Fr.setCell (p := ⟨gm, 5, none⟩) (Fr.setCell (p := ⟨gm, 4, none⟩) (Fr.refl (fun b => b = gm) w2) (Or.inl rfl) _) (Or.inl rfl) _) (Or.inl rfl) _) (Or.inl rfl) _) (Or.inl rfl) _) (Or.inl rfl) _
end
/-- A memory's state behind an act. -/
def MSt.act (s : MSt) (k t a z x : Int) : MSt := if k = 1 then s.load t a else if k = 2 then s.store t a x else if k = 3 then s.swap t a z x else if k = 4 then s.flush t a else if k = 5 then s.fence t else if k = 6 then s.withDev (s.dev.evict a) else s.crash
section
variable {Q : Nat → Prop} {wb w0 w w' : World} {gm : Nat} {dv pv : Value} {s : MSt}
set_option maxRecDepth 100000 in
set_option maxHeartbeats 2000000 in
theorem do7_ok (h : IsMem Q wb w0 w gm dv pv s) {i : Nat} (hi : i ≤ 1000) (fine : Fine i s.dev) (hc : Calm s) (k t a z x : Int) (h0 : -9223372036854775808 ≤ a) (h1 : a < 9223372036854775808) (hx : 0 ≤ x ∧ x < 18446744073709551616) :
    Calls Tryz.prog 12 #[.pointer (some ⟨gm, 0, none⟩), .agg #[.int .i64 k, .int .i64 t, .int .i64 a, .int .u64 z, .int .u64 x]] w (fun e w' => (∃ u, e = .returned u) ∧ IsMem Q wb w0 w' gm dv pv (s.act k t a z x)) := by
  have hW := h.ext ((Ext.refl w).alloc (.cells #[.int .i64 k, .int .i64 t, .int .i64 a, .int .u64 z, .int .u64 x] 47))
  have H1 := Lib.hid (memLoad_ok hW t a h0 h1 hc)
  have H2 := Lib.hid (memStore_ok hW t a x h0 h1 hx hc)
  have H3 := Lib.hid (memSwap_ok hW t a z x h0 h1 hx hc)
  have H4 := Lib.hid (memFlush_ok hW t a h1 hi fine hc)
  have H5 := Lib.hid (memFence_ok hW t hi fine hc)
  have H6 := Lib.hid (fun (W : World) (y : Ext _ W) => memDevice_ok (hW.ext y))
  have H7 : Hid (∀ (W : World) (y : Ext _ W), Calls Tryz.prog 73 #[dv, .int .i64 a] W fun e w' => e = .returned (.int .i64 (evictE s.dev a)) ∧ IsMem Q wb w0 w' gm dv pv (s.withDev (s.dev.evict a))) := Lib.hid (fun W y => ((hW.ext y).dev.evict hi fine a).mono fun e w' hh => ⟨hh.1, (hW.ext y).devTo hh.2⟩)
  have H8 := Lib.hid (memCrash_ok hW)
  clear h hc fine
  by_cases k1 : k = 1
  · subst k1
    rw [show s.act 1 t a z x = s.load t a from rfl]
    go_enter Tryz.func12, Tryz.ntmps12
    go_wp2_with fail
    refine H1.out.mono ?_
    rintro e w1 ⟨rfl, m1⟩
    have M1 := Lib.hid m1
    clear m1
    go_wp2_with fail
    refine bodyPost_end (results_none rfl _ _ _) rfl ?_
    exact ⟨⟨_, rfl⟩, M1.out⟩
  by_cases k2 : k = 2
  · subst k2
    rw [show s.act 2 t a z x = s.store t a x from rfl]
    go_enter Tryz.func12, Tryz.ntmps12
    go_wp2_with fail
    refine H2.out.mono ?_
    rintro e w1 ⟨⟨u, rfl⟩, m1⟩
    have M1 := Lib.hid m1
    clear m1
    go_wp2_with fail
    refine bodyPost_end (results_none rfl _ _ _) rfl ?_
    exact ⟨⟨_, rfl⟩, M1.out⟩
  by_cases k3 : k = 3
  · subst k3
    rw [show s.act 3 t a z x = s.swap t a z x from rfl]
    go_enter Tryz.func12, Tryz.ntmps12
    go_wp2_with fail
    refine H3.out.mono ?_
    rintro e w1 ⟨rfl, m1⟩
    have M1 := Lib.hid m1
    clear m1
    go_wp2_with fail
    refine bodyPost_end (results_none rfl _ _ _) rfl ?_
    exact ⟨⟨_, rfl⟩, M1.out⟩
  by_cases k4 : k = 4
  · subst k4
    rw [show s.act 4 t a z x = s.flush t a from rfl]
    go_enter Tryz.func12, Tryz.ntmps12
    go_wp2_with fail
    refine H4.out.mono ?_
    rintro e w1 ⟨⟨u, rfl⟩, m1⟩
    have M1 := Lib.hid m1
    clear m1
    go_wp2_with fail
    refine bodyPost_end (results_none rfl _ _ _) rfl ?_
    exact ⟨⟨_, rfl⟩, M1.out⟩
  by_cases k5 : k = 5
  · subst k5
    rw [show s.act 5 t a z x = s.fence t from rfl]
    go_enter Tryz.func12, Tryz.ntmps12
    go_wp2_with fail
    refine H5.out.mono ?_
    rintro e w1 ⟨⟨u, rfl⟩, m1⟩
    have M1 := Lib.hid m1
    clear m1
    go_wp2_with fail
    refine bodyPost_end (results_none rfl _ _ _) rfl ?_
    exact ⟨⟨_, rfl⟩, M1.out⟩
  by_cases k6 : k = 6
  · subst k6
    rw [show s.act 6 t a z x = s.withDev (s.dev.evict a) from rfl]
    generalize evictE s.dev a = er at *
    go_enter Tryz.func12, Tryz.ntmps12
    go_wp2_with fail
    go_region_with (first | (go_at_call 51; refine (H6.out _ (by first | exact Ext.refl _ | exact (Ext.refl _).drew)).mono ?_; rintro e w' ⟨rfl, rfl⟩) | (go_at_call 73; refine (H7.out _ (by first | exact Ext.refl _ | exact (Ext.refl _).drew)).mono ?_; rintro e w1 ⟨rfl, m1⟩; have M1 := Lib.hid m1; clear m1))
    all_goals
      go_wp2_with fail
      refine bodyPost_end (results_none rfl _ _ _) rfl ?_
      exact ⟨⟨_, rfl⟩, M1.out⟩
  · have t1 : (k == 1) = false := by simp [k1]
    have t2 : (k == 2) = false := by simp [k2]
    have t3 : (k == 3) = false := by simp [k3]
    have t4 : (k == 4) = false := by simp [k4]
    have t5 : (k == 5) = false := by simp [k5]
    have t6 : (k == 6) = false := by simp [k6]
    have d1 : decide (k = 1) = false := by simp [k1]
    have d2 : decide (k = 2) = false := by simp [k2]
    have d3 : decide (k = 3) = false := by simp [k3]
    have d4 : decide (k = 4) = false := by simp [k4]
    have d5 : decide (k = 5) = false := by simp [k5]
    have d6 : decide (k = 6) = false := by simp [k6]
    have E := Lib.hid (show s.act k t a z x = s.crash by unfold MSt.act; rw [if_neg k1, if_neg k2, if_neg k3, if_neg k4, if_neg k5, if_neg k6])
    go_enter Tryz.func12, Tryz.ntmps12
    go_wp2_with fail
    refine H8.out.mono ?_
    rintro e w1 ⟨⟨u, rfl⟩, m1⟩
    have M1 := Lib.hid m1
    clear m1
    go_wp2_with fail
    refine bodyPost_end (results_none rfl _ _ _) rfl ?_
    rw [E.out]
    exact ⟨⟨_, rfl⟩, M1.out⟩
end
end Go.Proofs.YtbicloceaddinaaGreat


/- limekilnref04.MayOpen, and limekilnlaw07.Both: a memory, and the document's. Conditions: those that each theorem names. -/
namespace Go.Proofs.YtbicloceaddinaaGreat
open Go.ChangeShapes Go.WideShapes Go.ChangeAt Go.RowKit
set_option linter.unusedVariables false
/-- Both memories, apart. -/
structure BothAt (w0 w : World) (gm : Nat) (dv pv : Value) (g : Nat) (R : RefB) (rv : Value) (s : MSt) : Prop where
  mem : IsMem (rfoot g R rv) w w0 w gm dv pv s
  ref : IsRMem w0.heap.size w g R rv s
theorem IsRMem.mono {B B' g : Nat} {w : World} {R : RefB} {pv : Value} {s : MSt} (h : IsRMem B w g R pv s) (hB : B' ≤ B) : IsRMem B' w g R pv s :=
  ⟨Nat.le_trans hB h.bg, h.blk, h.pas.mono hB, h.dev.mono hB, h.pk, h.lp⟩
end Go.Proofs.YtbicloceaddinaaGreat

