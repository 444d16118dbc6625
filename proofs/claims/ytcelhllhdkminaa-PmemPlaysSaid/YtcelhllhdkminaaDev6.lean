/- A line flushed by a thread that flushes none; a device made. Conditions: those that each theorem names. -/
import Derived.Test.YtcelhllhdkminaaDev5
namespace Go.Proofs.Ytcelhllhdkminaa
open Go.ChangeShapes Go.WideShapes Go.ChangeAt Go.RowKit
set_option linter.unusedVariables false
set_option maxHeartbeats 400000 in
theorem bsearch_empty (A : Option Addr) (c : Nat) (x : Int) (w : World) :
    Calls Try.prog 116 #[.slice A 0 c, .int .i64 x] w fun e w' => e = .returned (.tuple #[.int .i64 0, .bool false]) ∧ w = w' := by
  go_enter Try.func116, Try.ntmps116
  go_wp2_with fail
  go_loop [7, 8] (fun i j => i = .int .i64 0 ∧ j = .int .i64 0) (fun _ _ => 0)
  case atStart => exact ⟨rfl, rfl⟩
  case round =>
    obtain ⟨rfl, rfl⟩ := hrel
    go_wp2_with fail
    go_ret2
    exact ⟨rfl, rfl⟩
theorem one_at {w : World} {g : Nat} {k : IntKind} {x : Int} (hc : w.cell? ⟨g, 0, none⟩ = some (.int k x)) : ∀ j, j < [x].length → w.cell? ((⟨g, 0, none⟩ : Addr).add j) = some (.int k ([x].getD j 0)) := fun j hj => by
  have h1 : j < 1 := hj
  obtain rfl : j = 0 := by omega
  exact hc
/-- A row of which the block is new, or the old one's. -/
def RowOnto (w0 : World) (w : World) (v : Value) (zs : List Int) (r : Ending) (w' : World) : Prop :=
  ∃ v', r = .returned v' ∧ Row w' w0.heap.size 3 .i64 v' zs ∧ Ext w0 w' ∧ (∀ g, g < w.heap.size → v.ownBlock ≠ some g → w'.heap[g]? = w.heap[g]? ∧ v'.ownBlock ≠ some g) ∧ w.heap.size ≤ w'.heap.size
set_option maxRecDepth 100000 in
set_option maxHeartbeats 400000 in
theorem insert_empty (w0 w : World) (v : Value) (g : Nat) (x : Int) (hr : Row w w0.heap.size 3 .i64 v []) (ext : Ext w0 w) (hc : w.cell? ⟨g, 0, none⟩ = some (.int .i64 x)) :
    Calls Try.prog 117 #[v, .int .i64 0, .slice (some ⟨g, 0, none⟩) 1 1] w (RowOnto w0 w v [x]) := by
  obtain ⟨A, c, rfl, _, hcm, _, _, hN⟩ := (RowN.of_row hr).form (by decide)
  unfold maxLen at hcm
  have HR := Lib.hid (RowN.of_row hr)
  clear hr
  go_enter Try.func117, Try.ntmps117
  cases A with
  | none =>
    go_wp2_with ((at_builtin; refine Hid.out ?_))
    refine Lib.hid ?_
    refine wpList_appN rfl _ _ 40 rfl 3 .i64 1 8 (.int .i64 0) int_info rfl (by decide) (by decide) Try.underlying40 w0 w _ 0 [] (by rfl) HR.out ext ⟨g, 0, none⟩ 1 1 [x] (by rfl) rfl (one_at hc) (by omega) ?_
    intro v' w' h1 h2 h3 h4
    go_wp2_with fail
    go_ret
    exact ⟨v', rfl, h1.row, h2, h3, h4⟩
  | some ad =>
    go_wp2_with ((at_builtin; refine Hid.out ?_))
    refine Lib.hid ?_
    refine wpList_appN rfl _ _ 40 rfl 3 .i64 1 8 (.int .i64 0) int_info rfl (by decide) (by decide) Try.underlying40 w0 w _ 0 [] (by rfl) HR.out ext ⟨g, 0, none⟩ 1 1 [x] (by rfl) rfl (one_at hc) (by omega) ?_
    intro v' w' h1 h2 h3 h4
    go_wp2_with fail
    go_ret
    exact ⟨v', rfl, h1.row, h2, h3, h4⟩
set_option maxRecDepth 100000 in
set_option maxHeartbeats 400000 in
theorem add_empty (w0 w : World) (v : Value) (gf t : Nat) (x : Int) (hr : Row w w0.heap.size 3 .i64 v []) (ext : Ext w0 w) (hc : w.cell? ⟨gf, t, none⟩ = some v) (hfz : w.frozen? ⟨gf, t, none⟩ = false) (hgf : v.ownBlock ≠ some gf) :
    Calls Try.prog 103 #[.pointer (some ⟨gf, t, none⟩), .int .i64 x] w fun e w' => (∃ u, e = .returned u) ∧ ∃ v' w1, w' = w1.setCell ⟨gf, t, none⟩ v' ∧ Row w1 w0.heap.size 3 .i64 v' [x] ∧ Ext w0 w1 ∧ (∀ g, g < w.heap.size → v.ownBlock ≠ some g → w1.heap[g]? = w.heap[g]? ∧ v'.ownBlock ≠ some g) ∧ w.heap.size ≤ w1.heap.size := by
  obtain ⟨A, c, hv, _, _, _, _, _⟩ := (RowN.of_row hr).form (by decide)
  have hlt : gf < w.heap.size := World.block_lt_of_cell? w ⟨gf, t, none⟩ hc
  have HI := Lib.hid (insert_empty w0 (w.alloc (.cells #[.int .i64 x] 3)) v w.heap.size x (hr.ext ((Ext.refl w).alloc _)) (ext.alloc _) (by rw [World.cell?_alloc_at _ _ _ _ rfl]; rfl))
  have HB := Lib.hid (fun W => bsearch_empty A c x W)
  clear hr
  have hv' : v = .slice A 0 c := hv
  clear hv
  subst hv'
  go_enter Try.func103, Try.ntmps103
  go_wp2_with fail
  refine (HB.out _).mono ?_
  rintro e w' ⟨rfl, rfl⟩
  go_wp2_with fail
  refine HI.out.mono ?_
  rintro e w1 ⟨v', rfl, h1, h2, h3, h4⟩
  have hb := h3 gf (by simp; omega) hgf
  have hc1 : ∃ u, w1.cell? ⟨gf, t, none⟩ = some u ∧ w1.frozen? ⟨gf, t, none⟩ = false := by
    have e1 : w1.heap[gf]? = w.heap[gf]? := hb.1.trans (Below.heap_alloc w _ gf hlt)
    refine ⟨_, (World.cell?_of_block e1).trans hc, ?_⟩
    rw [← hfz]
    simp [World.frozen?, e1]
  obtain ⟨u, hcu, hfu⟩ := hc1
  obtain ⟨g', cap', rfl⟩ := ownsRow_succ h1
  have H1 := Lib.hid h1
  have H3 := Lib.hid h3
  clear h1 h3 hb
  go_wp2_with fail
  go_end0
  refine ⟨⟨_, rfl⟩, _, w1, rfl, H1.out, h2, fun g hg hne => ?_, by simp at h4; omega⟩
  obtain ⟨e1, e2⟩ := H3.out g (by simp; omega) hne
  exact ⟨e1.trans (Below.heap_alloc w _ g hg), e2⟩
section
variable {B : Nat} {w w1 : World} {D : DevB} {s : DSt}
/-- A thread's set put anew, behind a change of its old row alone. -/
theorem IsDev.putNew (h : IsDev B w D s) (t : Nat) (ht : t < s.T) (x : Fr (fun g => (D.its.getD t undef).ownBlock = some g) w w1) (v : Value) (l : List Int) (hr : Row w1 B 3 .i64 v l)
    (hv : ∀ g, g < w.heap.size → (D.its.getD t undef).ownBlock ≠ some g → v.ownBlock ≠ some g) :
    IsDev B (w1.setCell ⟨D.gf, t, none⟩ v) { D with its := D.its.set t v } { s with fl := s.fl.set t l } := by
  have hrt := RowN.of_row (h.fl t ht)
  have dev1 := h.dev.fr x (h.dev.ne_row hrt (by decide))
  have kept1 := h.kept.fr x (fun g hg => RowN.ne_row h.kept hrt (by decide) g hg)
  have seen1 := h.seen.fr x (fun g hg => RowN.ne_row h.seen hrt (by decide) g hg)
  have flb1 := h.flb.fr x (h.flb.ne_row hrt (by decide))
  have fl1 : ∀ t', t' < s.T → t' ≠ t → Row w1 B 3 .i64 (D.its.getD t' undef) (s.fl.getD t' []) := fun t' ht' e => (h.fl t' ht').fr x (fun g hg => h.apart t' t g ht' ht e hg)
  have writes1 := h.writes.fr x (fun g hg hs => h.wapart t ht (by cases hg; exact hs))
  have hvt : ∀ t' g, t' < s.T → t' ≠ t → v.ownBlock = some g → (D.its.getD t' undef).ownBlock ≠ some g := fun t' g ht' e hg hg' => by
    have hlt := (World.ownsRow.lt (h.fl t' ht') g hg').2
    by_cases c : (D.its.getD t undef).ownBlock = some g
    · exact h.apart t t' g ht ht' (fun e' => e e'.symm) c hg'
    · exact hv g hlt c hg
  have hvw : v.ownBlock ≠ some D.gw := hv D.gw (World.ownsRow.lt h.writes _ rfl).2 (h.wapart t ht)
  exact {
    n0 := h.n0, n1 := h.n1, T0 := h.T0, T1 := h.T1
    lits := by show (D.its.set t v).length = _; rw [List.length_set]; exact h.lits
    lfl := by show (s.fl.set t l).length = _; rw [List.length_set]; exact h.lfl
    bd := h.bd, bf := h.bf
    dev := dev1.far (p := ⟨D.gf, t, none⟩) (h.dev.ne h.flb (by decide)) _
    kept := kept1.far (p := ⟨D.gf, t, none⟩) (flb1.ne_row kept1 (by decide)) _
    seen := seen1.far (p := ⟨D.gf, t, none⟩) (flb1.ne_row seen1 (by decide)) _
    ks := h.ks
    flb := flb1.set t v
    fl := fun t' ht' => by
      show Row _ B 3 .i64 ((D.its.set t v).getD t' undef) ((s.fl.set t l).getD t' [])
      by_cases e : t' = t
      · subst e
        rw [List.getD_eq_getElem?_getD, List.getElem?_set_self (by rw [h.lits]; exact ht), List.getD_eq_getElem?_getD, List.getElem?_set_self (by rw [h.lfl]; exact ht)]
        exact hr.far (p := ⟨D.gf, t', none⟩) (flb1.ne_row (RowN.of_row hr) (by decide)) _
      · rw [List.getD_eq_getElem?_getD, List.getElem?_set_ne (fun h => e h.symm), ← List.getD_eq_getElem?_getD, List.getD_eq_getElem?_getD (l := s.fl.set t l), List.getElem?_set_ne (fun h => e h.symm), ← List.getD_eq_getElem?_getD]
        exact (fl1 t' ht' e).far (p := ⟨D.gf, t, none⟩) (flb1.ne_row (RowN.of_row (fl1 t' ht' e)) (by decide)) _
    writes := writes1.far (p := ⟨D.gf, t, none⟩) (flb1.ne_row writes1 (by decide)) _
    apart := fun t1 t2 g h1 h2 hne hg => by
      have e1 : ∀ t', t' ≠ t → (D.its.set t v).getD t' undef = D.its.getD t' undef := fun t' e => by
        rw [List.getD_eq_getElem?_getD, List.getElem?_set_ne (fun h => e h.symm), ← List.getD_eq_getElem?_getD]
      have e2 : (D.its.set t v).getD t undef = v := by
        rw [List.getD_eq_getElem?_getD, List.getElem?_set_self (by rw [h.lits]; exact ht)]; rfl
      show ((D.its.set t v).getD t2 undef).ownBlock ≠ some g
      have hg' : ((D.its.set t v).getD t1 undef).ownBlock = some g := hg
      by_cases c1 : t1 = t
      · subst c1
        rw [e2] at hg'
        rw [e1 t2 (fun e => hne e.symm)]
        exact hvt t2 g h2 (fun e => hne e.symm) hg'
      · rw [e1 t1 c1] at hg'
        by_cases c2 : t2 = t
        · subst c2
          rw [e2]
          intro hg2
          exact hvt t1 g h1 c1 hg2 hg'
        · rw [e1 t2 c2]
          exact h.apart t1 t2 g h1 h2 hne hg'
    wapart := fun t' ht' => by
      show ((D.its.set t v).getD t' undef).ownBlock ≠ some D.gw
      by_cases e : t' = t
      · subst e
        rw [List.getD_eq_getElem?_getD, List.getElem?_set_self (by rw [h.lits]; exact ht)]
        exact hvw
      · rw [List.getD_eq_getElem?_getD, List.getElem?_set_ne (fun h => e h.symm), ← List.getD_eq_getElem?_getD]
        exact h.wapart t' ht'
    lk := h.lk, ls := h.ls }
end
set_option maxRecDepth 100000 in
set_option maxHeartbeats 400000 in
theorem flush_empty (w0 w : World) (D : DevB) (s : DSt) (ext : Ext w0 w) (h : IsDev w0.heap.size w D s) (t p : Nat) (ht : t < s.T) (hp : p < s.n) (he : s.fl.getD t [] = []) :
    Calls Try.prog 79 #[D.ptr, .int .i64 (t : Int), .int .i64 (p : Int)] w (DevBack w0.heap.size w D { s with fl := s.fl.set t [(p : Int)] } (.returned (.int .i64 0))) := by
  unfold DevB.ptr
  have hT1 := h.T1
  have hn1 := h.n1
  have HT := Lib.hid (askT_ok _ _ _ _ (t : Int) (by omega) (by omega) w h.T1 h.c2)
  have HL := Lib.hid (askL_ok _ _ _ _ (p : Int) (by omega) (by omega) w h.n1 h.c0)
  have c2 := h.c2
  have hlt : t < D.its.length := by rw [h.lits]; exact ht
  have hrow := h.fl t ht
  rw [he] at hrow
  have hcell : w.cell? ⟨D.gf, t, none⟩ = some (D.its.getD t undef) := by
    rw [h.flb.cell t, List.getD_eq_getElem?_getD]
    simp [hlt]
  have HA := Lib.hid (add_empty w0 w (D.its.getD t undef) D.gf t (p : Int) hrow ext hcell (h.flb.frozen t) (h.flb.ne_row (RowN.of_row hrow) (by decide)))
  have H := Lib.hid h
  clear h hrow hcell he
  go_enter Try.func79, Try.ntmps79
  go_wp2_with fail
  refine HT.out.mono ?_
  rintro e w' ⟨rfl, rfl⟩
  go_wp2_with fail
  refine HL.out.mono ?_
  rintro e w' ⟨rfl, rfl⟩
  go_wp2_with fail
  refine HA.out.mono ?_
  rintro e w2 ⟨⟨u, rfl⟩, v', w1, rfl, h1, h2, h3, h4⟩
  go_wp2_with fail
  go_ret
  have h := H.out
  have fr1 : Fr (fun g => (D.its.getD t undef).ownBlock = some g) w w1 := ⟨h2.os.trans ext.os.symm, h2.tape.trans ext.tape.symm, h2.output.trans ext.output.symm, h4, fun g hg hn => (h3 g hg hn).1⟩
  have hS : ∀ g, (D.its.getD t undef).ownBlock = some g → D.foot g := fun g hg => Or.inr (Or.inr (Or.inr (Or.inr (Or.inr ⟨t, hlt, hg⟩))))
  have hnew := h.putNew t ht fr1 v' [(p : Int)] h1 (fun g hg hn => (h3 g hg hn).2)
  refine ⟨rfl, { D with its := D.its.set t v' }, rfl, hnew, ?_, fun g hg => ?_⟩
  · exact (fr1.mono (fun g _ hg => hS g hg)).setCell (Or.inl (Or.inr (Or.inr (Or.inr (Or.inl rfl))))) _
  · rcases foot_putSet hg with hg | hg
    · exact Or.inl hg
    · by_cases c : g < w.heap.size
      · by_cases c2 : (D.its.getD t undef).ownBlock = some g
        · exact Or.inl (hS g c2)
        · exact absurd hg (h3 g c c2).2
      · exact Or.inr (by omega)
end Go.Proofs.Ytcelhllhdkminaa
