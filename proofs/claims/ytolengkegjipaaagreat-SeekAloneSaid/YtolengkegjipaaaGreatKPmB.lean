/- A memory that is made; the page's example of layer 7. Conditions: those that each theorem names. -/
import Derived.Test.YtolengkegjipaaaGreatKPmX
import Derived.Test.YtolengkegjipaaaGreatViews
import Derived.BigQuiet
import Derived.Deep.QuietTactic
import Derived.Deep.RegionHeld3
namespace Go.Proofs.YtolengkegjipaaaGreat
open Go.ChangeShapes Go.WideShapes Go.ChangeAt Go.RowKit
set_option linter.unusedVariables false
/-- What hands back a memory, and no error. -/
def MemNew (Q : Nat → Prop) (wb w0 w : World) (dv : Value) (s : MSt) (e : Ending) (w' : World) : Prop := ∃ gm pv, e = .returned (.tuple #[.pointer (some ⟨gm, 0, none⟩), .int .i64 0]) ∧ IsMem Q wb w0 w' gm dv pv s ∧ Ext w w'
def MSt.new (d : DSt) (n : Nat) : MSt := ⟨d, List.replicate n 0, 0, 0, ⟨0, 0, 0, 0, 0, false⟩⟩
theorem IsMem.made {Q : Nat → Prop} {wb w0 w : World} {gd : Addr} {d : DSt} (h : AtQ Q wb w0 w (.pointer (some gd)) d) (n : Nat) (hn : n ≤ 262144) :
    IsMem Q wb w0 ((w.alloc (.cells (madeCells #[.int .u64 0] (n * 1)) 53)).alloc (.cells #[.pointer (some gd), .slice (some ⟨w.heap.size, 0, none⟩) n n, .int .i64 0, .int .i64 0, .int .i64 0, .int .i64 0, .int .i64 0, .int .u64 0, .int .u64 0, .bool false] 105)) (w.heap.size + 1) (.pointer (some gd)) (.slice (some ⟨w.heap.size, 0, none⟩) n n) (MSt.new d n) := by
  have x := ext2 w (.cells (madeCells #[.int .u64 0] (n * 1)) 53) (.cells #[.pointer (some gd), .slice (some ⟨w.heap.size, 0, none⟩) n n, .int .i64 0, .int .i64 0, .int .i64 0, .int .i64 0, .int .i64 0, .int .u64 0, .int .u64 0, .bool false] 105)
  have hx := h.held
  have hb := Blk.new (w.alloc (.cells (madeCells #[.int .u64 0] (n * 1)) 53)) 105 [.pointer (some gd), .slice (some ⟨w.heap.size, 0, none⟩) n n, .int .i64 0, .int .i64 0, .int .i64 0, .int .i64 0, .int .i64 0, .int .u64 0, .int .u64 0, .bool false]
  have hr := (Row.made w 53 n n .u64 (Nat.le_refl _) (by omega)).ext ((Ext.refl _).alloc (.cells #[.pointer (some gd), .slice (some ⟨w.heap.size, 0, none⟩) n n, .int .i64 0, .int .i64 0, .int .i64 0, .int .i64 0, .int .i64 0, .int .u64 0, .int .u64 0, .bool false] 105))
  have hsz : (w.alloc (.cells (madeCells #[.int .u64 0] (n * 1)) 53)).heap.size = w.heap.size + 1 := by simp
  rw [hsz] at hb
  have hlt := hb.lt
  have h0 := hx.1.size
  have hown : (Value.slice (some ⟨w.heap.size, 0, none⟩) n n).ownBlock = some w.heap.size := rfl
  refine ⟨by omega, hb, hr.mono h0, ?_, by rw [hown]; simp, ?_, by simp [MSt.new]; exact hn, lim_noughts n⟩
  · refine h.turnM (S := fun _ => False) (hx.1.trans x) (Fr.of_ext x) (fun _ hs => hs.elim) (fun g hg => ?_)
    rcases hg with rfl | hg | hg
    · exact ⟨hlt, Or.inr (by omega)⟩
    · rw [hown] at hg
      have : w.heap.size = g := by simpa using hg
      exact ⟨by omega, Or.inr (by omega)⟩
    · exact ⟨Nat.lt_of_lt_of_le (hx.2 g hg).1 x.size, Or.inl hg⟩
  · intro g hg
    have hg2 := (hx.2 g hg).1
    refine ⟨by omega, ?_, (x.block g hg2).trans (hx.2 g hg).2⟩
    rw [hown]
    simp
    omega
theorem memNew_ok {Q : Nat → Prop} {wb w0 w : World} {dv : Value} {d : DSt} (h : AtQ Q wb w0 w dv d) (n : Nat) (hn : n ≤ 262144) :
    Calls Tryz.prog 27 #[dv, .int .i64 (n : Int)] w (MemNew Q wb w0 w dv (MSt.new d n)) := by
  have hv := h
  obtain ⟨D, rfl, _, _, _⟩ := hv
  unfold DevB.ptr at *
  have hM := IsMem.made h n hn
  rw [Nat.mul_one] at hM
  have HM := Lib.hid hM
  clear hM
  have hmk := fun W => make_words n n (Nat.le_refl _) (by omega) W
  clear h
  have u1 : ¬ (n : Int) < 0 := by omega
  have u2 : ¬ (262144 : Int) < (n : Int) := by omega
  have u3 : decide (262144 < n) = false := by simp; omega
  go_enter Tryz.func27, Tryz.ntmps27
  go_wp2_with fail
  go_ret2
  refine ⟨w.heap.size + 1, _, ?_, HM.out, ext2 w _ _⟩
  first | rfl | simp
end Go.Proofs.YtolengkegjipaaaGreat


/- Acts of layer 7 that came in, read; what is done to no memory. Conditions: those that each theorem names. -/
namespace Go.Proofs.YtolengkegjipaaaGreat
open Go.ChangeShapes Go.WideShapes Go.ChangeAt Go.RowKit Go.Deep
set_option linter.unusedVariables false
section
variable {H : Type} {enc : TypeId × Value → H} {P : Program}
end
end Go.Proofs.YtolengkegjipaaaGreat


/- Memory: Flush, Fence, Crash. Conditions: those that each theorem names. -/
namespace Go.Proofs.YtolengkegjipaaaGreat
open Go.ChangeShapes Go.WideShapes Go.ChangeAt Go.RowKit
set_option linter.unusedVariables false
def MSt.withDev (s : MSt) (d : DSt) : MSt := { s with dev := d }
def MSt.asked (s : MSt) (k t a : Int) (d : DSt) (er : Int) : MSt := (s.withDev d).note ⟨k, t, a, 0, 0, (er == 0)⟩ (!(er == 0))
def MSt.flush (s : MSt) (t a : Int) : MSt := s.asked 4 t a (s.dev.flush t (lineNo a)) (flushE s.dev t (lineNo a))
def MSt.fence (s : MSt) (t : Int) : MSt := s.asked 5 t 0 (s.dev.fence t) (fenceE s.dev t)
section
variable {Q : Nat → Prop} {wb w0 w : World} {gm : Nat} {dv pv : Value} {s : MSt}
set_option maxRecDepth 100000 in
set_option maxHeartbeats 2000000 in
theorem IsMem.ask2 (h : IsMem Q wb w0 w gm dv pv s) (k t a : Int) (c0 c1 : Value) (er : Int) (d : DSt) (hc : Calm s)
    (hf : ∀ (Q' : Nat → Prop) (wb' W : World), Ext w W → AtQ Q' wb' w0 W dv s.dev → Calls Tryz.prog 114 #[dv, c0, c1] W fun e w' => e = .returned (.int .i64 er) ∧ AtQ Q' wb' w0 w' dv d) :
    Calls Tryz.prog 113 #[.pointer (some ⟨gm, 0, none⟩), .agg #[.int .i64 k, .int .i64 t, .int .i64 a, .int .u64 0, .int .u64 0, .bool false], .func (.func 114) #[] #[c0, c1]] w
      fun e w' => (∃ u, e = .returned u) ∧ IsMem Q wb w0 w' gm dv pv (s.asked k t a d er) := by
  unfold MSt.asked
  have HF := Lib.hid hf
  have HH := Lib.hid h
  have x1 := (Ext.refl w).alloc (.cells #[.int .i64 k, .int .i64 t, .int .i64 a, .int .u64 0, .int .u64 0, .bool false] 76)
  have p1 := Blk.new w 76 [.int .i64 k, .int .i64 t, .int .i64 a, .int .u64 0, .int .u64 0, .bool false]
  have m1 : IsMem (fun g => Q g ∨ g = w.heap.size) _ w0 _ gm dv pv s := h.hold x1 (fun g hg => by
    rcases hg with hg | rfl
    · exact ⟨Nat.lt_of_lt_of_le (h.lt.2 g hg) x1.size, Or.inl hg⟩
    · exact ⟨p1.lt, Or.inr (Nat.le_refl _)⟩)
  have cd : (w.alloc (.cells #[.int .i64 k, .int .i64 t, .int .i64 a, .int .u64 0, .int .u64 0, .bool false] 76)).cell? ⟨gm, 0, none⟩ = some dv := m1.blk.cell 0
  have hg1 : gm < w.heap.size := h.blk.lt
  have hg2 : ¬ gm = w.heap.size := by omega
  have cd0 : w.cell? ⟨gm, 0, none⟩ = some dv := h.blk.cell 0
  have HM1 := Lib.hid m1
  have HX1 := Lib.hid x1
  have HP1 := Lib.hid p1
  clear h hf m1 x1 p1
  go_enter Tryz.func113, Tryz.ntmps113
  go_wp2_with fail
  refine (HF.out _ _ _ HX1.out HM1.out.dev).mono ?_
  rintro e w2 ⟨rfl, a2⟩
  have m2 := HM1.out.devTo a2
  have q1 : Blk w2 w.heap.size 76 [.int .i64 k, .int .i64 t, .int .i64 a, .int .u64 0, .int .u64 0, .bool false] := (m2.keptQ _ (Or.inr rfl)).trans HP1.out
  have hb2 : ∀ g, Q g → w2.heap[g]? = wb.heap[g]? := fun g hg => (m2.keptQ g (Or.inl hg)).trans ((HX1.out.block g (HH.out.lt.2 g hg)).trans (HH.out.keptQ g hg))
  have M2 := Lib.hid m2
  have HB := Lib.hid hb2
  have X1 := Lib.hid q1
  have HW := Lib.hid (Nat.le_of_lt q1.lt)
  clear hb2 m2 a2 HF HM1 HP1 HX1 cd cd0
  have hs1 := q1.lt
  have hs3 : ¬ w.heap.size = w2.heap.size := by omega
  have hk : w2.cell? ⟨w.heap.size, 0, none⟩ = some (.int .i64 k) := q1.cell 0
  have ht : w2.cell? ⟨w.heap.size, 1, none⟩ = some (.int .i64 t) := q1.cell 1
  have ha : w2.cell? ⟨w.heap.size, 2, none⟩ = some (.int .i64 a) := q1.cell 2
  have ho : w2.cell? ⟨w.heap.size, 3, none⟩ = some (.int .u64 0) := q1.cell 3
  have hn : w2.cell? ⟨w.heap.size, 4, none⟩ = some (.int .u64 0) := q1.cell 4
  have hd : w2.cell? ⟨w.heap.size, 5, none⟩ = some (.bool false) := q1.cell 5
  have f5 : w2.frozen? ⟨w.heap.size, 5, none⟩ = false := q1.frozen 5
  clear q1
  go_wp2_with fail
  have fr3 : Fr (fun g => g = w.heap.size) w2 (w2.setCell ⟨w.heap.size, 5, none⟩ (.bool (er == 0))) := Fr.setCell (S := fun g => g = w.heap.size) (p := ⟨w.heap.size, 5, none⟩) (Fr.refl _ w2) (Or.inl rfl) _
  have m3 := M2.out.turn fr3 (fun g hg => Or.inr hg) (fun g hg => by rw [hg]; exact HH.out.lt.1.size)
  have hb3 : ∀ g, Q g → (w2.setCell ⟨w.heap.size, 5, none⟩ (.bool (er == 0))).heap[g]? = wb.heap[g]? := fun g hg => (fr3.block g (Nat.lt_of_lt_of_le (HH.out.lt.2 g hg) HW.out) (by have := HH.out.lt.2 g hg; omega)).trans (HB.out g hg)
  refine (m3.note_ok ⟨k, t, a, 0, 0, (er == 0)⟩ (!(er == 0)) hc.1 hc.2.1 hc.2.2.1 hc.2.2.2).mono ?_
  rintro e w4 ⟨⟨u, rfl⟩, m4⟩
  have M4 : Hid (IsMem Q wb w0 w4 gm dv pv ((s.withDev d).note ⟨k, t, a, 0, 0, (er == 0)⟩ (!(er == 0)))) := Lib.hid (m4.less (fun g hg => Or.inl hg) hb3)
  clear hk ht ha ho hn hd f5 hs1 hs3 m4 hb3 m3 fr3
  go_wp2_with fail
  refine bodyPost_end (results_none rfl _ _ _) rfl ?_
  exact ⟨⟨_, rfl⟩, M4.out⟩
set_option maxRecDepth 100000 in
set_option maxHeartbeats 2000000 in
theorem IsMem.ask1 (h : IsMem Q wb w0 w gm dv pv s) (k t a : Int) (c0 : Value) (er : Int) (d : DSt) (hc : Calm s)
    (hf : ∀ (Q' : Nat → Prop) (wb' W : World), Ext w W → AtQ Q' wb' w0 W dv s.dev → Calls Tryz.prog 117 #[dv, c0] W fun e w' => e = .returned (.int .i64 er) ∧ AtQ Q' wb' w0 w' dv d) :
    Calls Tryz.prog 113 #[.pointer (some ⟨gm, 0, none⟩), .agg #[.int .i64 k, .int .i64 t, .int .i64 a, .int .u64 0, .int .u64 0, .bool false], .func (.func 117) #[] #[c0]] w
      fun e w' => (∃ u, e = .returned u) ∧ IsMem Q wb w0 w' gm dv pv (s.asked k t a d er) := by
  unfold MSt.asked
  have HF := Lib.hid hf
  have HH := Lib.hid h
  have x1 := (Ext.refl w).alloc (.cells #[.int .i64 k, .int .i64 t, .int .i64 a, .int .u64 0, .int .u64 0, .bool false] 76)
  have p1 := Blk.new w 76 [.int .i64 k, .int .i64 t, .int .i64 a, .int .u64 0, .int .u64 0, .bool false]
  have m1 : IsMem (fun g => Q g ∨ g = w.heap.size) _ w0 _ gm dv pv s := h.hold x1 (fun g hg => by
    rcases hg with hg | rfl
    · exact ⟨Nat.lt_of_lt_of_le (h.lt.2 g hg) x1.size, Or.inl hg⟩
    · exact ⟨p1.lt, Or.inr (Nat.le_refl _)⟩)
  have cd : (w.alloc (.cells #[.int .i64 k, .int .i64 t, .int .i64 a, .int .u64 0, .int .u64 0, .bool false] 76)).cell? ⟨gm, 0, none⟩ = some dv := m1.blk.cell 0
  have hg1 : gm < w.heap.size := h.blk.lt
  have hg2 : ¬ gm = w.heap.size := by omega
  have cd0 : w.cell? ⟨gm, 0, none⟩ = some dv := h.blk.cell 0
  have HM1 := Lib.hid m1
  have HX1 := Lib.hid x1
  have HP1 := Lib.hid p1
  clear h hf m1 x1 p1
  go_enter Tryz.func113, Tryz.ntmps113
  go_wp2_with fail
  refine (HF.out _ _ _ HX1.out HM1.out.dev).mono ?_
  rintro e w2 ⟨rfl, a2⟩
  have m2 := HM1.out.devTo a2
  have q1 : Blk w2 w.heap.size 76 [.int .i64 k, .int .i64 t, .int .i64 a, .int .u64 0, .int .u64 0, .bool false] := (m2.keptQ _ (Or.inr rfl)).trans HP1.out
  have hb2 : ∀ g, Q g → w2.heap[g]? = wb.heap[g]? := fun g hg => (m2.keptQ g (Or.inl hg)).trans ((HX1.out.block g (HH.out.lt.2 g hg)).trans (HH.out.keptQ g hg))
  have M2 := Lib.hid m2
  have HB := Lib.hid hb2
  have X1 := Lib.hid q1
  have HW := Lib.hid (Nat.le_of_lt q1.lt)
  clear hb2 m2 a2 HF HM1 HP1 HX1 cd cd0
  have hs1 := q1.lt
  have hs3 : ¬ w.heap.size = w2.heap.size := by omega
  have hk : w2.cell? ⟨w.heap.size, 0, none⟩ = some (.int .i64 k) := q1.cell 0
  have ht : w2.cell? ⟨w.heap.size, 1, none⟩ = some (.int .i64 t) := q1.cell 1
  have ha : w2.cell? ⟨w.heap.size, 2, none⟩ = some (.int .i64 a) := q1.cell 2
  have ho : w2.cell? ⟨w.heap.size, 3, none⟩ = some (.int .u64 0) := q1.cell 3
  have hn : w2.cell? ⟨w.heap.size, 4, none⟩ = some (.int .u64 0) := q1.cell 4
  have hd : w2.cell? ⟨w.heap.size, 5, none⟩ = some (.bool false) := q1.cell 5
  have f5 : w2.frozen? ⟨w.heap.size, 5, none⟩ = false := q1.frozen 5
  clear q1
  go_wp2_with fail
  have fr3 : Fr (fun g => g = w.heap.size) w2 (w2.setCell ⟨w.heap.size, 5, none⟩ (.bool (er == 0))) := Fr.setCell (S := fun g => g = w.heap.size) (p := ⟨w.heap.size, 5, none⟩) (Fr.refl _ w2) (Or.inl rfl) _
  have m3 := M2.out.turn fr3 (fun g hg => Or.inr hg) (fun g hg => by rw [hg]; exact HH.out.lt.1.size)
  have hb3 : ∀ g, Q g → (w2.setCell ⟨w.heap.size, 5, none⟩ (.bool (er == 0))).heap[g]? = wb.heap[g]? := fun g hg => (fr3.block g (Nat.lt_of_lt_of_le (HH.out.lt.2 g hg) HW.out) (by have := HH.out.lt.2 g hg; omega)).trans (HB.out g hg)
  refine (m3.note_ok ⟨k, t, a, 0, 0, (er == 0)⟩ (!(er == 0)) hc.1 hc.2.1 hc.2.2.1 hc.2.2.2).mono ?_
  rintro e w4 ⟨⟨u, rfl⟩, m4⟩
  have M4 : Hid (IsMem Q wb w0 w4 gm dv pv ((s.withDev d).note ⟨k, t, a, 0, 0, (er == 0)⟩ (!(er == 0)))) := Lib.hid (m4.less (fun g hg => Or.inl hg) hb3)
  clear hk ht ha ho hn hd f5 hs1 hs3 m4 hb3 m3 fr3
  go_wp2_with fail
  refine bodyPost_end (results_none rfl _ _ _) rfl ?_
  exact ⟨⟨_, rfl⟩, M4.out⟩
set_option maxRecDepth 100000 in
set_option maxHeartbeats 2000000 in
theorem memFlush_ok (h : IsMem Q wb w0 w gm dv pv s) (t a : Int) (h1 : a < 9223372036854775808) {i : Nat} (hi : i ≤ 1000) (fine : Fine i s.dev) (hc : Calm s) :
    Calls Tryz.prog 104 #[.pointer (some ⟨gm, 0, none⟩), .int .i64 t, .int .i64 a] w fun e w' => (∃ u, e = .returned u) ∧ IsMem Q wb w0 w' gm dv pv (s.flush t a) := by
  have hmf : ∀ (fn : Fn) (first cap : Array Value) (w : World), (Instr.makeFunc fn first cap).run Tryz.prog w = .ok (.func fn first cap) w := fun _ _ _ _ => rfl
  have b0 := Blk.new w 3 [.int .i64 t]
  have b1 := Blk.new (w.alloc (.cells #[.int .i64 t] 3)) 3 [.int .i64 a]
  have b0 := b0.ext ((Ext.refl _).alloc (.cells #[.int .i64 a] 3))
  have b0 := b0.ext ((Ext.refl _).alloc (.cells #[.int .i64 4, .int .i64 t, .int .i64 a, .int .u64 0, .int .u64 0, .bool false] 76))
  have b1 := b1.ext ((Ext.refl _).alloc (.cells #[.int .i64 4, .int .i64 t, .int .i64 a, .int .u64 0, .int .u64 0, .bool false] 76))
  have x1 := (((Ext.refl w).alloc (.cells #[.int .i64 t] 3)).alloc (.cells #[.int .i64 a] 3)).alloc (.cells #[.int .i64 4, .int .i64 t, .int .i64 a, .int .u64 0, .int .u64 0, .bool false] 76)
  have k1 : ∀ W, Ext _ W → W.cell? ⟨w.heap.size, 0, none⟩ = some (.int .i64 t) := fun W xx => (b0.ext xx).cell 0
  have k2 : ∀ W, Ext _ W → W.cell? ⟨w.heap.size + 1, 0, none⟩ = some (.int .i64 a) := fun W xx => by have := (b1.ext xx).cell 0; simpa using this
  have HF : ∀ (Q' : Nat → Prop) (wb' W : World), Ext _ W → AtQ Q' wb' w0 W dv s.dev → Calls Tryz.prog 114 #[dv, .pointer (some ⟨w.heap.size, 0, none⟩), .pointer (some ⟨w.heap.size + 1, 0, none⟩)] W fun e w' => e = .returned (.int .i64 (flushE s.dev t (lineNo a))) ∧ AtQ Q' wb' w0 w' dv (s.dev.flush t (lineNo a)) := fun Q' wb' W xx hA => by
    have c1 := k1 W xx
    have c2 := k2 W xx
    have HL := Lib.hid (fun W => lineOf_any a W h1)
    have HFl := Lib.hid (fun (W' : World) (y : Ext W W') => (hA.ext y).flush hi fine t (lineNo a))
    clear hA xx k1 k2 x1 b0 b1 hc fine h
    generalize w.heap.size + 1 = g2 at *
    generalize w.heap.size = g1 at *
    have xt : Ext W W.drew := (Ext.refl W).drew
    go_enter Tryz.func114, Tryz.ntmps114
    go_wp2_with fail
    go_region_with (first
      | (go_at_call 116; refine (HL.out _).mono ?_; rintro e w' ⟨rfl, rfl⟩)
      | (go_at_call 115; refine (HFl.out _ xt).mono ?_; rintro e w5 ⟨rfl, a5⟩; have A5 := Lib.hid a5; clear a5))
    all_goals
      go_wp2_with fail
      go_ret
      exact ⟨rfl, A5.out⟩
  have HT := Lib.hid ((h.ext x1).ask2 4 t a _ _ _ _ hc HF)
  clear HF k1 k2 x1 b0 b1 hc fine h
  unfold MSt.flush
  go_enter Tryz.func104, Tryz.ntmps104
  go_wp2_with fail
  refine HT.out.mono ?_
  rintro e w1 ⟨⟨u, rfl⟩, m⟩
  go_wp2_with fail
  refine bodyPost_end (results_none rfl _ _ _) rfl ?_
  exact ⟨⟨_, rfl⟩, m⟩
set_option maxRecDepth 100000 in
set_option maxHeartbeats 2000000 in
theorem memFence_ok (h : IsMem Q wb w0 w gm dv pv s) (t : Int) {i : Nat} (hi : i ≤ 1000) (fine : Fine i s.dev) (hc : Calm s) :
    Calls Tryz.prog 105 #[.pointer (some ⟨gm, 0, none⟩), .int .i64 t] w fun e w' => (∃ u, e = .returned u) ∧ IsMem Q wb w0 w' gm dv pv (s.fence t) := by
  have hmf : ∀ (fn : Fn) (first cap : Array Value) (w : World), (Instr.makeFunc fn first cap).run Tryz.prog w = .ok (.func fn first cap) w := fun _ _ _ _ => rfl
  have b0 := Blk.new w 3 [.int .i64 t]
  have b0 := b0.ext ((Ext.refl _).alloc (.cells #[.int .i64 5, .int .i64 t, .int .i64 0, .int .u64 0, .int .u64 0, .bool false] 76))
  have x1 := ((Ext.refl w).alloc (.cells #[.int .i64 t] 3)).alloc (.cells #[.int .i64 5, .int .i64 t, .int .i64 0, .int .u64 0, .int .u64 0, .bool false] 76)
  have k1 : ∀ W, Ext _ W → W.cell? ⟨w.heap.size, 0, none⟩ = some (.int .i64 t) := fun W xx => (b0.ext xx).cell 0
  have HF : ∀ (Q' : Nat → Prop) (wb' W : World), Ext _ W → AtQ Q' wb' w0 W dv s.dev → Calls Tryz.prog 117 #[dv, .pointer (some ⟨w.heap.size, 0, none⟩)] W fun e w' => e = .returned (.int .i64 (fenceE s.dev t)) ∧ AtQ Q' wb' w0 w' dv (s.dev.fence t) := fun Q' wb' W xx hA => by
    have c1 := k1 W xx
    have HFl := Lib.hid (hA.fenceA hi fine t)
    clear hA xx k1 x1 b0 hc fine h
    generalize w.heap.size = g1 at *
    go_enter Tryz.func117, Tryz.ntmps117
    go_wp2_with fail
    refine HFl.out.mono ?_
    rintro e w5 ⟨rfl, a5⟩
    have A5 := Lib.hid a5
    clear a5
    go_wp2_with fail
    go_ret
    exact ⟨rfl, A5.out⟩
  have HT := Lib.hid ((h.ext x1).ask1 5 t 0 _ _ _ hc HF)
  clear HF k1 x1 b0 hc fine h
  unfold MSt.fence
  go_enter Tryz.func105, Tryz.ntmps105
  go_wp2_with fail
  refine HT.out.mono ?_
  rintro e w1 ⟨⟨u, rfl⟩, m⟩
  go_wp2_with fail
  refine bodyPost_end (results_none rfl _ _ _) rfl ?_
  exact ⟨⟨_, rfl⟩, m⟩
end
end Go.Proofs.YtolengkegjipaaaGreat

