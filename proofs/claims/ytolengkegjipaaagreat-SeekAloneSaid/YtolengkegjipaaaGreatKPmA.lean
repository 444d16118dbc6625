/- A memory (package pmem) as it lies, and its accesses one by one. Conditions: those that each theorem names. -/
import Derived.Test.YtolengkegjipaaaGreatPm1
import Derived.Test.YtolengkegjipaaaGreatKActs
import Derived.StillTailTactics
namespace Go.Proofs.YtolengkegjipaaaGreat
open Go.ChangeShapes Go.WideShapes Go.ChangeAt Go.RowKit
set_option linter.unusedVariables false
/-- An access, and what a memory holds. -/
structure Acc where
  k : Int
  t : Int
  a : Int
  o : Int
  n : Int
  d : Bool
structure MSt where
  dev : DSt
  pas : List Int
  clock : Int
  bad : Int
  last : Acc
def memCells (dv pv : Value) (s : MSt) : List Value :=
  [dv, pv, .int .i64 s.clock, .int .i64 s.bad, .int .i64 s.last.k, .int .i64 s.last.t, .int .i64 s.last.a, .int .u64 s.last.o, .int .u64 s.last.n, .bool s.last.d]
/-- What a memory's own blocks are, but its device's. -/
def memQ (Q : Nat → Prop) (gm : Nat) (pv : Value) (g : Nat) : Prop := g = gm ∨ pv.ownBlock = some g ∨ Q g
/-- A memory; other blocks (Q), which it has not, are as they were in wb. -/
structure IsMem (Q : Nat → Prop) (wb w0 w : World) (gm : Nat) (dv pv : Value) (s : MSt) : Prop where
  g0 : w0.heap.size ≤ gm
  blk : Blk w gm 105 (memCells dv pv s)
  pas : Row w w0.heap.size 53 .u64 pv s.pas
  dev : AtQ (memQ Q gm pv) w w0 w dv s.dev
  pm : pv.ownBlock ≠ some gm
  q : ∀ g, Q g → g ≠ gm ∧ pv.ownBlock ≠ some g ∧ w.heap[g]? = wb.heap[g]?
  lp : s.pas.length ≤ 262144
  ll : Lim s.pas 18446744073709551616
section
variable {Q : Nat → Prop} {wb w0 w w' : World} {gm : Nat} {dv pv : Value} {s : MSt}
theorem AtQ.turnM {Q Q' : Nat → Prop} {S : Nat → Prop} {wb w0 w w' : World} {v : Value} {s : DSt} (h : AtQ Q wb w0 w v s) (x : Ext w0 w') (f : Fr S w w') (hS : ∀ g, S g → Q g) (hQ' : ∀ g, Q' g → g < w'.heap.size ∧ (Q g ∨ w.heap.size ≤ g)) : AtQ Q' w' w0 w' v s := by
  obtain ⟨D, rfl, h, e, hQ⟩ := h
  refine ⟨D, rfl, h.fr f (fun g hf hs => (hQ g (hS g hs)).2.1 hf), x, fun g hg => ?_⟩
  obtain ⟨h1, h2⟩ := hQ' g hg
  refine ⟨h1, fun hf => ?_, rfl⟩
  rcases h2 with h2 | h2
  · exact (hQ g h2).2.1 hf
  · have := (h.foot_ge hf).2
    omega
theorem AtQ.rebase {Q : Nat → Prop} {wb w0 w : World} {v : Value} {s : DSt} (h : AtQ Q wb w0 w v s) : AtQ Q w w0 w v s := by
  obtain ⟨D, e, h, x, hQ⟩ := h
  exact ⟨D, e, h, x, fun g hg => ⟨(hQ g hg).1, (hQ g hg).2.1, rfl⟩⟩
theorem AtQ.held {Q : Nat → Prop} {wb w0 w : World} {v : Value} {s : DSt} (h : AtQ Q wb w0 w v s) : Ext w0 w ∧ ∀ g, Q g → g < w.heap.size ∧ w.heap[g]? = wb.heap[g]? := by
  obtain ⟨D, e, h, x, hQ⟩ := h
  exact ⟨x, fun g hg => ⟨(hQ g hg).1, (hQ g hg).2.2⟩⟩
theorem AtQ.loadW {Q : Nat → Prop} {wb w0 w : World} {v : Value} {s : DSt} (h : AtQ Q wb w0 w v s) (a : Int) :
    Calls Tryz.prog 77 #[v, .int .i64 a] w fun e w' => e = .returned (.tuple #[.int .u64 (loadV s a), .int .i64 (wordE s a)]) ∧ w = w' := by
  obtain ⟨D, rfl, h, ext, hQ⟩ := h
  by_cases ha : 0 ≤ a ∧ a < (s.n : Int) * 8
  · obtain ⟨an, rfl⟩ := Int.eq_ofNat_of_zero_le ha.1
    have e1 : loadV s (an : Int) = s.seen.getD an 0 := by unfold loadV; rw [if_pos ha]; rfl
    have e2 : wordE s (an : Int) = 0 := by unfold wordE; rw [if_pos ha]
    rw [e1, e2]
    exact load_ok _ _ _ _ h an (by omega)
  · have e1 : loadV s a = 0 := by unfold loadV; rw [if_neg ha]
    have e2 : wordE s a = 5 := by unfold wordE; rw [if_neg ha]
    rw [e1, e2]
    exact load_no _ w D s h a (by omega)
theorem IsMem.lt (h : IsMem Q wb w0 w gm dv pv s) : Ext w0 w ∧ ∀ g, Q g → g < w.heap.size := ⟨h.dev.held.1, fun g hg => (h.dev.held.2 g (Or.inr (Or.inr hg))).1⟩
theorem IsMem.fr {S : Nat → Prop} {wb' : World} (h : IsMem Q wb w0 w gm dv pv s) (x : Ext w0 w') (f : Fr S w w') (hS : ∀ g, S g → Q g) (hb : ∀ g, Q g → w'.heap[g]? = wb'.heap[g]?) : IsMem Q wb' w0 w' gm dv pv s where
  g0 := h.g0
  blk := h.blk.fr f (fun hs => (h.q gm (hS gm hs)).1 rfl)
  pas := h.pas.fr f (fun g hg hs => (h.q g (hS g hs)).2.1 hg)
  dev := h.dev.turnM x f (fun g hs => Or.inr (Or.inr (hS g hs))) (fun g hg => ⟨Nat.lt_of_lt_of_le (h.dev.held.2 g hg).1 f.size, Or.inl hg⟩)
  pm := h.pm
  q := fun g hg => ⟨(h.q g hg).1, (h.q g hg).2.1, hb g hg⟩
  lp := h.lp
  ll := h.ll
theorem IsMem.ext (h : IsMem Q wb w0 w gm dv pv s) (x : Ext w w') : IsMem Q wb w0 w' gm dv pv s :=
  h.fr (S := fun _ => False) (h.lt.1.trans x) (Fr.of_ext x) (fun _ hs => hs.elim) (fun g hg => (x.block g (h.lt.2 g hg)).trans (h.q g hg).2.2)
/-- Other blocks are held instead: some of those that were, and new ones. -/
theorem IsMem.hold {Q' : Nat → Prop} (h : IsMem Q wb w0 w gm dv pv s) (x : Ext w w') (hQ : ∀ g, Q' g → g < w'.heap.size ∧ (Q g ∨ w.heap.size ≤ g)) : IsMem Q' w' w0 w' gm dv pv s := by
  have h' := h.ext x
  have hp : ∀ g, pv.ownBlock = some g → g < w.heap.size := fun g hg => (World.ownsRow.lt h.pas g hg).2
  refine ⟨h.g0, h'.blk, h'.pas, ?_, h.pm, ?_, h.lp, h.ll⟩
  · refine h.dev.turnM (S := fun _ => False) (h.lt.1.trans x) (Fr.of_ext x) (fun _ hs => hs.elim) (fun g hg => ?_)
    rcases hg with rfl | hg | hg
    · exact ⟨h'.blk.lt, Or.inl (Or.inl rfl)⟩
    · exact ⟨Nat.lt_of_lt_of_le (hp g hg) x.size, Or.inl (Or.inr (Or.inl hg))⟩
    · exact ⟨(hQ g hg).1, (hQ g hg).2.elim (fun h2 => Or.inl (Or.inr (Or.inr h2))) Or.inr⟩
  · intro g hg
    obtain ⟨h1, h2 | h2⟩ := hQ g hg
    · exact ⟨(h.q g h2).1, (h.q g h2).2.1, rfl⟩
    · refine ⟨fun e => ?_, fun e => ?_, rfl⟩
      · have := h.blk.lt; omega
      · have := hp g e; omega
/-- Blocks that are held may turn. -/
theorem IsMem.turn {S : Nat → Prop} (h : IsMem Q wb w0 w gm dv pv s) (f : Fr S w w') (hS : ∀ g, S g → Q g) (h0 : ∀ g, S g → w0.heap.size ≤ g) : IsMem Q w' w0 w' gm dv pv s :=
  h.fr (f.ext h.lt.1 h0) f hS (fun _ _ => rfl)
theorem IsMem.keptQ (h : IsMem Q wb w0 w gm dv pv s) (g : Nat) (hg : Q g) : w.heap[g]? = wb.heap[g]? := (h.q g hg).2.2
/-- What held more holds less. -/
theorem IsMem.less {Q' : Nat → Prop} {wb' : World} (h : IsMem Q wb w0 w gm dv pv s) (hQ : ∀ g, Q' g → Q g) (hb : ∀ g, Q' g → wb.heap[g]? = wb'.heap[g]?) : IsMem Q' wb' w0 w gm dv pv s where
  g0 := h.g0
  blk := h.blk
  pas := h.pas
  dev := by
    obtain ⟨D, e, h1, x, hq⟩ := h.dev
    refine ⟨D, e, h1, x, fun g hg => hq g ?_⟩
    rcases hg with hg | hg | hg
    · exact Or.inl hg
    · exact Or.inr (Or.inl hg)
    · exact Or.inr (Or.inr (hQ g hg))
  pm := h.pm
  q := fun g hg => ⟨(h.q g (hQ g hg)).1, (h.q g (hQ g hg)).2.1, (h.q g (hQ g hg)).2.2.trans (hb g hg)⟩
  lp := h.lp
  ll := h.ll
end
/-- What is at a word, and whether there is one. -/
def peekV (s : MSt) (a : Int) : Int := if 0 ≤ a then loadV s.dev a else s.pas.getD (-1 - a).toNat 0
def peekB (s : MSt) (a : Int) : Bool := if 0 ≤ a then decide (a < (s.dev.n : Int) * 8) else decide (-1 - a < (s.pas.length : Int))
def MSt.put (s : MSt) (a x : Int) : MSt := if 0 ≤ a then { s with dev := s.dev.store a x } else { s with pas := s.pas.set (-1 - a).toNat x }
def MSt.note (s : MSt) (x : Acc) (b : Bool) : MSt := { s with clock := s.clock + 1, bad := if b = true then s.bad + 1 else s.bad, last := x }
theorem passingAt_any (a : Int) (w : World) (h0 : -9223372036854775808 ≤ a) (h1 : a < 0) :
    Calls Tryz.prog 72 #[.int .i64 a] w fun e w' => e = .returned (.int .i64 (-1 - a)) ∧ w = w' := by
  go_enter Tryz.func72, Tryz.ntmps72
  go_wp2
  go_ret
  exact ⟨rfl, rfl⟩
def lineNo (a : Int) : Int := if a < 0 then -1 else a / 8
theorem lineOf_any (a : Int) (w : World) (h1 : a < 9223372036854775808) :
    Calls Tryz.prog 116 #[.int .i64 a] w fun e w' => e = .returned (.int .i64 (lineNo a)) ∧ w = w' := by
  unfold lineNo
  by_cases h : a < 0
  · rw [if_pos h]
    go_enter Tryz.func116, Tryz.ntmps116
    go_wp2
    go_ret
    exact ⟨rfl, rfl⟩
  · rw [if_neg h]
    have h0 : 0 ≤ a := by omega
    go_enter Tryz.func116, Tryz.ntmps116
    go_wp2
    go_ret
    exact ⟨rfl, rfl⟩
section
variable {Q : Nat → Prop} {wb w0 w w' : World} {gm : Nat} {dv pv : Value} {s : MSt}
set_option maxRecDepth 100000 in
set_option maxHeartbeats 1000000 in
theorem IsMem.peek (h : IsMem Q wb w0 w gm dv pv s) (a : Int) (h0 : -9223372036854775808 ≤ a) (h1 : a < 9223372036854775808) :
    Calls Tryz.prog 58 #[.pointer (some ⟨gm, 0, none⟩), .int .i64 a] w fun e w' => e = .returned (.tuple #[.int .u64 (peekV s a), .bool (peekB s a)]) ∧ w = w' := by
  have c0 : w.cell? ⟨gm, 0, none⟩ = some dv := h.blk.cell 0
  have c1 : w.cell? ⟨gm, 1, none⟩ = some pv := h.blk.cell 1
  have lp := h.lp
  by_cases ha : 0 ≤ a
  · have HD := Lib.hid (h.dev.loadW a)
    have e1 : peekV s a = loadV s.dev a := by unfold peekV; rw [if_pos ha]
    have e2 : peekB s a = decide (a < (s.dev.n : Int) * 8) := by unfold peekB; rw [if_pos ha]
    rw [e1, e2]
    clear e1 e2 c1 h
    generalize loadV s.dev a = x at HD ⊢
    by_cases hl : a < (s.dev.n : Int) * 8
    · rw [show wordE s.dev a = 0 by unfold wordE; rw [if_pos ⟨ha, hl⟩]] at HD
      rw [decide_eq_true hl]
      clear hl
      go_enter Tryz.func58, Tryz.ntmps58
      go_wp2_with fail
      refine HD.out.mono ?_
      rintro e w' ⟨rfl, rfl⟩
      go_wp2_with fail
      go_ret2
      exact ⟨rfl, rfl⟩
    · rw [show wordE s.dev a = 5 by unfold wordE; rw [if_neg (fun h => hl h.2)]] at HD
      rw [decide_eq_false hl]
      clear hl
      go_enter Tryz.func58, Tryz.ntmps58
      go_wp2_with fail
      refine HD.out.mono ?_
      rintro e w' ⟨rfl, rfl⟩
      go_wp2_with fail
      go_ret2
      exact ⟨rfl, rfl⟩
  · have hn : a < 0 := by omega
    have hge : ¬ 0 ≤ a := ha
    have e1 : peekV s a = s.pas.getD (-1 - a).toNat 0 := by unfold peekV; rw [if_neg ha]
    have e2 : peekB s a = decide (-1 - a < (s.pas.length : Int)) := by unfold peekB; rw [if_neg ha]
    rw [e1, e2]
    have HP := Lib.hid (passingAt_any a w h0 hn)
    obtain ⟨A, c, rfl, hI, _⟩ := h.pas.form
    by_cases hl : -1 - a < (s.pas.length : Int)
    · obtain ⟨j, hj⟩ := Int.eq_ofNat_of_zero_le (show 0 ≤ -1 - a by omega)
      obtain ⟨ad, rfl, hb, hc⟩ := hI (by omega)
      have hcell := hc j (by omega)
      rw [decide_eq_true hl]
      clear hc hI e1 e2 h
      rw [hj] at HP hl ⊢
      have hjl : j < s.pas.length := by omega
      have hj2 : decide (j < s.pas.length) = true := by simp [hjl]
      have hj3 : (0 : Int) ≤ (j : Int) := by omega
      rw [show ((j : Int)).toNat = j from rfl]
      have HJ := Lib.hid hj
      clear hj
      generalize s.pas.getD j 0 = x at hcell ⊢
      generalize s.pas.length = N at *
      go_enter Tryz.func58, Tryz.ntmps58
      go_wp2_with fail
      refine HP.out.mono ?_
      rintro e w' ⟨rfl, rfl⟩
      go_wp2_with fail
      go_ret2
      exact ⟨rfl, rfl⟩
    · rw [decide_eq_false hl]
      rw [show s.pas.getD (-1 - a).toNat 0 = 0 by rw [List.getD_eq_getElem?_getD, List.getElem?_eq_none (by omega)]; rfl]
      have hl2 : (s.pas.length : Int) ≤ -1 - a := by omega
      clear e1 e2 hI h
      generalize s.pas.length = N at *
      obtain ⟨j, hj⟩ := Int.eq_ofNat_of_zero_le (show 0 ≤ -1 - a by omega)
      rw [hj] at HP hl2 hl
      have hj2 : decide (j < N) = false := by simp; omega
      have HJ := Lib.hid hj
      clear hj
      go_enter Tryz.func58, Tryz.ntmps58
      go_wp2_with fail
      refine HP.out.mono ?_
      rintro e w' ⟨rfl, rfl⟩
      go_wp2_with fail
      go_ret2
      exact ⟨rfl, rfl⟩
end
end Go.Proofs.YtolengkegjipaaaGreat


/- A memory's accesses: what is put, what is noted, and Load, Store, Swap. Conditions: those that each theorem names. -/
namespace Go.Proofs.YtolengkegjipaaaGreat
open Go.ChangeShapes Go.WideShapes Go.ChangeAt Go.RowKit
set_option linter.unusedVariables false
section
variable {Q : Nat → Prop} {wb w0 w w' : World} {gm : Nat} {dv pv : Value} {s : MSt}
/-- The device has turned, its pointer stays. -/
theorem IsMem.devTo (h : IsMem Q wb w0 w gm dv pv s) {d : DSt} (a : AtQ (memQ Q gm pv) w w0 w' dv d) : IsMem Q wb w0 w' gm dv pv { s with dev := d } where
  g0 := h.g0
  blk := by
    have := (a.held.2 gm (Or.inl rfl)).2
    unfold Blk
    rw [this]
    exact h.blk
  pas := by
    refine (RowN.kept (RowN.of_row h.pas) fun g hg => ?_).row
    exact (a.held.2 g (Or.inr (Or.inl hg))).2
  dev := a.rebase
  pm := h.pm
  q := fun g hg => ⟨(h.q g hg).1, (h.q g hg).2.1, (a.held.2 g (Or.inr (Or.inr hg))).2.trans (h.q g hg).2.2⟩
  lp := h.lp
  ll := h.ll
/-- A word stored among the passing ones. -/
theorem IsMem.pasTo (h : IsMem Q wb w0 w gm dv pv s) {g c j : Nat} (e : pv = .slice (some ⟨g, 0, none⟩) s.pas.length c) (x : Int) (hx : 0 ≤ x ∧ x < 18446744073709551616) : IsMem Q wb w0 (w.setCell ⟨g, j, none⟩ (.int .u64 x)) gm dv pv { s with pas := s.pas.set j x } := by
  have hg : pv.ownBlock = some g := by rw [e]; rfl
  have f : Fr (fun b => b = g) w (w.setCell ⟨g, j, none⟩ (.int .u64 x)) := Fr.setCell (S := fun b => b = g) (p := ⟨g, j, none⟩) (Fr.refl _ w) (Or.inl rfl) _
  have hlt := World.ownsRow.lt h.pas g hg
  have x' : Ext w0 (w.setCell ⟨g, j, none⟩ (.int .u64 x)) := h.lt.1.setCell hlt.1 _
  have hn : gm ≠ g := fun e2 => h.pm (by rw [hg, e2])
  refine ⟨h.g0, h.blk.far (p := ⟨g, j, none⟩) hn _, ?_, ?_, h.pm, ?_, ?_, ?_⟩
  · have hr : RowN w w0.heap.size 53 1 .u64 (.slice (some ⟨g, 0, none⟩) s.pas.length c) s.pas.length s.pas := by rw [← e]; exact RowN.of_row h.pas
    have h2 := hr.set (j := j) x
    rw [e]
    have h3 := h2
    unfold RowN at h3
    unfold Row
    rw [List.length_set]
    exact h3
  · refine h.dev.turnM x' f (fun b hb => Or.inr (Or.inl (by rw [hg, hb]))) (fun b hb => ⟨?_, Or.inl hb⟩)
    exact Nat.lt_of_lt_of_le (h.dev.held.2 b hb).1 f.size
  · intro b hb
    have hne : b ≠ g := fun e2 => (h.q b hb).2.1 (by rw [hg, e2])
    exact ⟨(h.q b hb).1, (h.q b hb).2.1, (f.block b (h.lt.2 b hb) hne).trans (h.q b hb).2.2⟩
  · rw [List.length_set]; exact h.lp
  · exact lim_set h.ll hx j
/-- The memory's own cells have turned. -/
theorem IsMem.blkTo (h : IsMem Q wb w0 w gm dv pv s) (s' : MSt) (hd : s'.dev = s.dev) (hp : s'.pas = s.pas) (hb : Blk w' gm 105 (memCells dv pv s')) (f : Fr (fun b => b = gm) w w') : IsMem Q wb w0 w' gm dv pv s' := by
  have x' : Ext w0 w' := f.ext h.lt.1 (fun g hg => by rw [hg]; exact h.g0)
  refine ⟨h.g0, hb, ?_, ?_, h.pm, ?_, ?_, ?_⟩
  · rw [hp]
    exact h.pas.fr f (fun g hg e => h.pm (by rw [← e]; exact hg))
  · rw [hd]
    exact h.dev.turnM x' f (fun b hb => Or.inl hb) (fun b hb => ⟨Nat.lt_of_lt_of_le (h.dev.held.2 b hb).1 f.size, Or.inl hb⟩)
  · intro b hb
    exact ⟨(h.q b hb).1, (h.q b hb).2.1, (f.block b (h.lt.2 b hb) (h.q b hb).1).trans (h.q b hb).2.2⟩
  · rw [hp]; exact h.lp
  · rw [hp]; exact h.ll
set_option maxRecDepth 100000 in
set_option maxHeartbeats 1000000 in
theorem IsMem.put_ok (h : IsMem Q wb w0 w gm dv pv s) (a x : Int) (h0 : -9223372036854775808 ≤ a) (h1 : a < 9223372036854775808) (hx : 0 ≤ x ∧ x < 18446744073709551616) (hp : peekB s a = true) :
    Calls Tryz.prog 51 #[.pointer (some ⟨gm, 0, none⟩), .int .i64 a, .int .u64 x] w fun e w' => (∃ u, e = .returned u) ∧ IsMem Q wb w0 w' gm dv pv (s.put a x) := by
  have c0 : w.cell? ⟨gm, 0, none⟩ = some dv := h.blk.cell 0
  have c1 : w.cell? ⟨gm, 1, none⟩ = some pv := h.blk.cell 1
  have lp := h.lp
  by_cases ha : 0 ≤ a
  · have HD := Lib.hid (h.dev.storeA a x hx)
    have HH := Lib.hid h
    have HE := Lib.hid (show s.put a x = { s with dev := s.dev.store a x } by unfold MSt.put; rw [if_pos ha])
    clear h c1
    go_enter Tryz.func51, Tryz.ntmps51
    go_wp2_with fail
    refine HD.out.mono ?_
    rintro e w' ⟨rfl, a1⟩
    have HR := Lib.hid (HH.out.devTo a1)
    clear a1
    go_wp2_with fail
    refine bodyPost_ret (results_none rfl _ _ _) rfl ?_
    rw [HE.out]
    exact ⟨⟨_, rfl⟩, HR.out⟩
  · have hn : a < 0 := by omega
    have hp2 : -1 - a < (s.pas.length : Int) := by unfold peekB at hp; rw [if_neg ha] at hp; simpa using hp
    have HP := Lib.hid (fun W => passingAt_any a W h0 hn)
    obtain ⟨j, hj⟩ := Int.eq_ofNat_of_zero_le (show 0 ≤ -1 - a by omega)
    have HE := Lib.hid (show s.put a x = { s with pas := s.pas.set j x } by unfold MSt.put; rw [if_neg ha, hj]; rfl)
    rw [hj] at HP hp2
    obtain ⟨g, c, e, _, _, _, hgl⟩ := (RowN.of_row h.pas).at_ (by omega)
    have hfz : w.frozen? ⟨g, j, none⟩ = false := RowN.frozen (by rw [← e]; exact RowN.of_row h.pas) j
    have hcl : w.cell? ⟨g, j, none⟩ = some (.int .u64 (s.pas.getD j 0)) := RowN.cell (by rw [← e]; exact RowN.of_row h.pas) (by omega)
    have HR := Lib.hid ((h.ext ((Ext.refl w).drew)).pasTo (j := j) e x hx)
    have hjl : j < s.pas.length := by omega
    have hj2 : decide (j < s.pas.length) = true := by simp [hjl]
    have hj3 : (0 : Int) ≤ (j : Int) := by omega
    have HJ := Lib.hid hj
    rw [e] at c1
    have HG := Lib.hid e
    clear hj e h hp
    generalize s.pas.length = N at *
    go_enter Tryz.func51, Tryz.ntmps51
    go_wp2_with fail
    go_region_with (first | ((with_reducible refine (HP.out _).mono ?_); rintro e w' ⟨rfl, rfl⟩))
    all_goals
      go_wp2_with fail
      refine bodyPost_end (results_none rfl _ _ _) rfl ?_
      rw [HE.out]
      exact ⟨⟨_, rfl⟩, HR.out⟩
set_option maxRecDepth 100000 in
set_option maxHeartbeats 1000000 in
theorem IsMem.note_ok (h : IsMem Q wb w0 w gm dv pv s) (x : Acc) (b : Bool) (k0 : 0 ≤ s.clock) (k1 : s.clock ≤ 1000000000) (b0 : 0 ≤ s.bad) (b1 : s.bad ≤ 1000000000) :
    Calls Tryz.prog 70 #[.pointer (some ⟨gm, 0, none⟩), .agg #[.int .i64 x.k, .int .i64 x.t, .int .i64 x.a, .int .u64 x.o, .int .u64 x.n, .bool x.d], .bool b] w fun e w' => (∃ u, e = .returned u) ∧ IsMem Q wb w0 w' gm dv pv (s.note x b) := by
  obtain ⟨k, t, a, o, n, d⟩ := x
  obtain ⟨sd, sp, sc, sb, ⟨lk, lt, la, lo, ln, ld⟩⟩ := s
  have hb := h.blk
  unfold memCells at hb
  simp only at hb k0 k1 b0 b1 ⊢
  have c2 : w.cell? ⟨gm, 2, none⟩ = some (.int .i64 sc) := hb.cell 2
  have c3 : w.cell? ⟨gm, 3, none⟩ = some (.int .i64 sb) := hb.cell 3
  have hlt := hb.lt
  have hne : ¬ gm = w.heap.size := by omega
  have c4 : w.cell? ⟨gm, 4, none⟩ = some (.int .i64 lk) := hb.cell 4
  have c5 : w.cell? ⟨gm, 5, none⟩ = some (.int .i64 lt) := hb.cell 5
  have c6 : w.cell? ⟨gm, 6, none⟩ = some (.int .i64 la) := hb.cell 6
  have c7 : w.cell? ⟨gm, 7, none⟩ = some (.int .u64 lo) := hb.cell 7
  have c8 : w.cell? ⟨gm, 8, none⟩ = some (.int .u64 ln) := hb.cell 8
  have c9 : w.cell? ⟨gm, 9, none⟩ = some (.bool ld) := hb.cell 9
  have f2 : w.frozen? ⟨gm, 2, none⟩ = false := hb.frozen 2
  have f3 : w.frozen? ⟨gm, 3, none⟩ = false := hb.frozen 3
  have f4 : w.frozen? ⟨gm, 4, none⟩ = false := hb.frozen 4
  have f5 : w.frozen? ⟨gm, 5, none⟩ = false := hb.frozen 5
  have f6 : w.frozen? ⟨gm, 6, none⟩ = false := hb.frozen 6
  have f7 : w.frozen? ⟨gm, 7, none⟩ = false := hb.frozen 7
  have f8 : w.frozen? ⟨gm, 8, none⟩ = false := hb.frozen 8
  have f9 : w.frozen? ⟨gm, 9, none⟩ = false := hb.frozen 9
  have HH := Lib.hid h
  clear h hb
  cases b
  · go_enter Tryz.func70, Tryz.ntmps70
    go_wp2_with fail
    refine bodyPost_end (results_none rfl _ _ _) rfl ?_
    exact ⟨⟨_, rfl⟩, (HH.out.blkTo (MSt.note ⟨sd, sp, sc, sb, ⟨lk, lt, la, lo, ln, ld⟩⟩ ⟨k, t, a, o, n, d⟩ false) rfl rfl (((((((HH.out.blk.set 2 (.int .i64 (sc + 1))).set 4 (.int .i64 k)).set 5 (.int .i64 t)).set 6 (.int .i64 a)).set 7 (.int .u64 o)).set 8 (.int .u64 n)).set 9 (.bool d)) (Fr.setCell (p := ⟨gm, 9, none⟩) (Fr.setCell (p := ⟨gm, 8, none⟩) (Fr.setCell (p := ⟨gm, 7, none⟩) (Fr.setCell (p := ⟨gm, 6, none⟩) (Fr.setCell (p := ⟨gm, 5, none⟩) (Fr.setCell (p := ⟨gm, 4, none⟩) (Fr.setCell (p := ⟨gm, 2, none⟩) (Fr.refl (fun b => b = gm) w) (Or.inl rfl) (.int .i64 (sc + 1))) (Or.inl rfl) (.int .i64 k)) (Or.inl rfl) (.int .i64 t)) (Or.inl rfl) (.int .i64 a)) (Or.inl rfl) (.int .u64 o)) (Or.inl rfl) (.int .u64 n)) (Or.inl rfl) (.bool d))).ext ((Ext.refl _).alloc _)⟩
  · go_enter Tryz.func70, Tryz.ntmps70
    go_wp2_with fail
    refine bodyPost_end (results_none rfl _ _ _) rfl ?_
    exact ⟨⟨_, rfl⟩, (HH.out.blkTo (MSt.note ⟨sd, sp, sc, sb, ⟨lk, lt, la, lo, ln, ld⟩⟩ ⟨k, t, a, o, n, d⟩ true) rfl rfl ((((((((HH.out.blk.set 2 (.int .i64 (sc + 1))).set 3 (.int .i64 (sb + 1))).set 4 (.int .i64 k)).set 5 (.int .i64 t)).set 6 (.int .i64 a)).set 7 (.int .u64 o)).set 8 (.int .u64 n)).set 9 (.bool d)) (Fr.setCell (p := ⟨gm, 9, none⟩) (Fr.setCell (p := ⟨gm, 8, none⟩) (Fr.setCell (p := ⟨gm, 7, none⟩) (Fr.setCell (p := ⟨gm, 6, none⟩) (Fr.setCell (p := ⟨gm, 5, none⟩) (Fr.setCell (p := ⟨gm, 4, none⟩) (Fr.setCell (p := ⟨gm, 3, none⟩) (Fr.setCell (p := ⟨gm, 2, none⟩) (Fr.refl (fun b => b = gm) w) (Or.inl rfl) (.int .i64 (sc + 1))) (Or.inl rfl) (.int .i64 (sb + 1))) (Or.inl rfl) (.int .i64 k)) (Or.inl rfl) (.int .i64 t)) (Or.inl rfl) (.int .i64 a)) (Or.inl rfl) (.int .u64 o)) (Or.inl rfl) (.int .u64 n)) (Or.inl rfl) (.bool d))).ext ((Ext.refl _).alloc _)⟩
end
end Go.Proofs.YtolengkegjipaaaGreat

