/- Layer 8: slices.Clone of numbers and of pairs; model.cloned. Conditions: those that each theorem names. -/
import Derived.Test.YthbngenjcgclgaaMod29
import Derived.Test.YthbngenjcgclgaaLineMath
namespace Go.Proofs.Ythbngenjcgclgaa
open Go.ChangeShapes Go.WideShapes Go.ChangeAt Go.RowKit
set_option linter.unusedVariables false
theorem flat_at {w : World} {ad : Addr} {ps : List Pr} (h : PAt w (some ad) ps) : ∀ j, j < (flat ps).length → w.cell? (ad.add j) = some (.int .u32 ((flat ps).getD j 0)) := fun j hj => by
  have hl : j < ps.length * 2 := by rw [flat_len] at hj; exact hj
  obtain ⟨ad', e, _, hc⟩ := h (by omega)
  injection e with e
  subst e
  obtain ⟨c0, c1⟩ := hc (j / 2) (by omega)
  obtain ⟨g0, g1⟩ := flat_get ps (j / 2)
  rcases Nat.mod_two_eq_zero_or_one j with e | e
  · rw [show j = j / 2 * 2 by omega, g0]
    exact c0
  · rw [show j = j / 2 * 2 + 1 by omega, g1, add_spot _ _ _ (by omega)]
    exact c1
set_option maxRecDepth 100000 in
set_option maxHeartbeats 1000000 in
theorem clone32_ok (w : World) (A : Option Addr) (n c : Nat) (zs : List Int) (hl : zs.length = n) (hn : n ≤ 1000000) (h : Ints w .u32 A zs) :
    Calls Try.prog 21 #[.slice A n c] w fun e w' => ∃ v', e = .returned v' ∧ IRow w' w.heap.size v' zs ∧ Ext w w' := by
  have HP := Lib.hid h
  have HL := Lib.hid hl
  cases A with
  | none =>
    obtain rfl : n = 0 := by
      rcases Nat.eq_zero_or_pos n with h0 | h0
      · exact h0
      · obtain ⟨_, e, _⟩ := h (by omega)
        cases e
    have hz : zs = [] := List.length_eq_zero_iff.1 hl
    subst hz
    clear h hl
    have hnil := fun W => eqnil_slice (P := Try.prog) (t := 22) Try.underlying22 none 0 c W
    rw [show (none : Option Addr).isNone = true from rfl] at hnil
    go_enter Try.func21, Try.ntmps21
    go_wp2
    go_ret
    exact ⟨_, rfl, Row.nil _ _ _ _, Ext.refl w⟩
  | some ad =>
    have hnil := fun W => eqnil_slice (P := Try.prog) (t := 22) Try.underlying22 (some ad) n c W
    rw [show (some ad : Option Addr).isNone = false from rfl] at hnil
    have r0 : RowN (w.alloc (.cells #[] 32)) w.heap.size 32 1 .u32 (.slice (some ⟨w.heap.size, 0, none⟩) 0 0) 0 [] := World.ownsRow_lit w #[] 0 (Nat.le_refl _) (by decide) rfl
    have R0 := Lib.hid r0
    have HN : Hid (∀ j, j < (zs).length → (w.alloc (.cells #[] 32)).cell? (ad.add j) = some (.int .u32 ((zs).getD j 0))) := Lib.hid (by
      intro j hj
      have hp := HP.out.ext ((Ext.refl w).alloc (.cells #[] 32))
      obtain ⟨ad', e, _, hc⟩ := hp (by omega)
      injection e with e
      subst e
      exact hc j hj)
    clear h hl r0
    go_enter Try.func21, Try.ntmps21
    go_wp2_with ((at_builtin; refine Hid.out ?_))
    refine Lib.hid ?_
    refine wpList_appN rfl _ _ 22 rfl 32 .u32 1 4 (.int .u32 0) u32_info rfl (by decide) (by decide) Try.underlying22 w (w.alloc (.cells #[] 32)) _ 0 [] (by rfl) R0.out ((Ext.refl w).alloc _) ad n c (zs) (by rfl) (by rw [HL.out]; omega) HN.out (by omega) ?_
    intro v' w' h1 h2 h3 h4
    go_wp2_with fail
    go_ret
    exact ⟨v', rfl, by rw [Nat.zero_add, List.nil_append] at h1; rw [← HL.out] at h1; exact h1.row, h2⟩
set_option maxRecDepth 100000 in
set_option maxHeartbeats 1000000 in
theorem clonePs_ok (w : World) (A : Option Addr) (n c : Nat) (zs : List Pr) (hl : zs.length = n) (hn : n ≤ 1000000) (h : PAt w A zs) :
    Calls Try.prog 22 #[.slice A n c] w fun e w' => ∃ v', e = .returned v' ∧ PRow w' w.heap.size v' zs ∧ Ext w w' := by
  have HP := Lib.hid h
  have HL := Lib.hid hl
  cases A with
  | none =>
    obtain rfl : n = 0 := by
      rcases Nat.eq_zero_or_pos n with h0 | h0
      · exact h0
      · obtain ⟨_, e, _⟩ := h (by omega)
        cases e
    have hz : zs = [] := List.length_eq_zero_iff.1 hl
    subst hz
    clear h hl
    have hnil := fun W => eqnil_slice (P := Try.prog) (t := 23) Try.underlying23 none 0 c W
    rw [show (none : Option Addr).isNone = true from rfl] at hnil
    go_enter Try.func22, Try.ntmps22
    go_wp2
    go_ret
    exact ⟨_, rfl, PRow.nil _ _, Ext.refl w⟩
  | some ad =>
    have hnil := fun W => eqnil_slice (P := Try.prog) (t := 23) Try.underlying23 (some ad) n c W
    rw [show (some ad : Option Addr).isNone = false from rfl] at hnil
    have r0 : RowN (w.alloc (.cells #[] 46)) w.heap.size 46 2 .u32 (.slice (some ⟨w.heap.size, 0, none⟩) 0 0) 0 [] := World.ownsRow_lit w #[] 0 (Nat.le_refl _) (by decide) rfl
    have R0 := Lib.hid r0
    have HN : Hid (∀ j, j < (flat zs).length → (w.alloc (.cells #[] 46)).cell? (ad.add j) = some (.int .u32 ((flat zs).getD j 0))) := Lib.hid (by
      intro j hj
      have hp := HP.out.ext ((Ext.refl w).alloc (.cells #[] 46))
      exact flat_at hp j hj)
    clear h hl r0
    go_enter Try.func22, Try.ntmps22
    go_wp2_with ((at_builtin; refine Hid.out ?_))
    refine Lib.hid ?_
    refine wpList_appN rfl _ _ 23 rfl 46 .u32 2 8 (.agg #[.int .u32 0, .int .u32 0]) pair_info rfl (by decide) (by decide) Try.underlying23 w (w.alloc (.cells #[] 46)) _ 0 [] (by rfl) R0.out ((Ext.refl w).alloc _) ad n c (flat zs) (by rfl) (by rw [flat_len, HL.out]) HN.out (by omega) ?_
    intro v' w' h1 h2 h3 h4
    go_wp2_with fail
    go_ret
    exact ⟨v', rfl, by rw [Nat.zero_add, List.nil_append] at h1; rw [← HL.out] at h1; exact h1, h2⟩
set_option maxRecDepth 100000 in
set_option maxHeartbeats 2000000 in
theorem cloned_ok (w : World) (A0 A1 A2 : Option Addr) (n0 n1 n2 c0 c1 c2 : Nat) (st : Sta) (h : StAt w A0 A1 A2 st) (hl : Lens st n0 n1 n2) (m0 : n0 ≤ 1000000) (m1 : n1 ≤ 1000000) (m2 : n2 ≤ 1000000) :
    Calls Try.prog 17 #[.agg #[.slice A0 n0 c0, .slice A1 n1 c1, .slice A2 n2 c2]] w fun e w' => ∃ qv sv mv, e = .returned (.agg #[qv, sv, mv]) ∧ Ext w w' ∧ Parts w' w.heap.size qv sv mv st := by
  have l0 := (Blk.new w 25 [.slice A0 n0 c0, .slice A1 n1 c1, .slice A2 n2 c2]).ext ((Ext.refl _).alloc (.cells #[.slice none 0 0, .slice none 0 0, .slice none 0 0] 25))
  have l1 := Blk.new (w.alloc (.cells #[.slice A0 n0 c0, .slice A1 n1 c1, .slice A2 n2 c2] 25)) 25 [.slice none 0 0, .slice none 0 0, .slice none 0 0]
  rw [show (w.alloc (.cells #[.slice A0 n0 c0, .slice A1 n1 c1, .slice A2 n2 c2] 25)).heap.size = w.heap.size + 1 by simp] at l1
  have XB := Lib.hid (((Ext.refl w).alloc (.cells #[.slice A0 n0 c0, .slice A1 n1 c1, .slice A2 n2 c2] 25)).alloc (.cells #[.slice none 0 0, .slice none 0 0, .slice none 0 0] 25))
  have L0 := Lib.hid l0
  have L1 := Lib.hid l1
  have HS := Lib.hid h
  have HLL := Lib.hid hl
  clear l0 l1 h hl
  go_enter Try.func17, Try.ntmps17
  go_upto_region 1 with fail
  generalize (w.alloc (.cells #[.slice A0 n0 c0, .slice A1 n1 c1, .slice A2 n2 c2] 25)).alloc (.cells #[.slice none 0 0, .slice none 0 0, .slice none 0 0] 25) = W0 at *
  have s0 := L0.out.lt
  have s1 := L1.out.lt
  have hne : ¬ w.heap.size = w.heap.size + 1 := by omega
  have H0 : Hid (∀ W, Ext W0 W → Calls Try.prog 21 #[.slice A0 n0 c0] W fun e w' => ∃ v', e = .returned v' ∧ IRow w' W.heap.size v' st.q ∧ Ext W w') := Lib.hid (fun W x => clone32_ok W A0 n0 c0 st.q HLL.out.q m0 (HS.out.q.ext (XB.out.trans x)))
  have H1 : Hid (∀ W, Ext W0 W → Calls Try.prog 21 #[.slice A1 n1 c1] W fun e w' => ∃ v', e = .returned v' ∧ IRow w' W.heap.size v' st.s ∧ Ext W w') := Lib.hid (fun W x => clone32_ok W A1 n1 c1 st.s HLL.out.s m1 (HS.out.s.ext (XB.out.trans x)))
  have H2 : Hid (∀ W, Ext W0 W → Calls Try.prog 22 #[.slice A2 n2 c2] W fun e w' => ∃ v', e = .returned v' ∧ PRow w' W.heap.size v' st.m ∧ Ext W w') := Lib.hid (fun W x => clonePs_ok W A2 n2 c2 st.m HLL.out.m m2 (HS.out.m.ext (XB.out.trans x)))
  have HC : Hid (∀ W : World, W.heap[w.heap.size]? = W0.heap[w.heap.size]? → W.cell? ⟨w.heap.size, 0, none⟩ = some (.slice A0 n0 c0) ∧ W.cell? ⟨w.heap.size, 1, none⟩ = some (.slice A1 n1 c1) ∧ W.cell? ⟨w.heap.size, 2, none⟩ = some (.slice A2 n2 c2)) := Lib.hid (fun W e => ⟨(World.cell?_of_block e).trans (L0.out.cell 0), (World.cell?_of_block e).trans (L0.out.cell 1), (World.cell?_of_block e).trans (L0.out.cell 2)⟩)
  have HD : Hid (∀ W : World, Ext W0 W → W.cell? ⟨w.heap.size + 1, 0, none⟩ = some (.slice none 0 0) ∧ W.cell? ⟨w.heap.size + 1, 1, none⟩ = some (.slice none 0 0) ∧ W.cell? ⟨w.heap.size + 1, 2, none⟩ = some (.slice none 0 0) ∧ W.frozen? ⟨w.heap.size + 1, 0, none⟩ = false ∧ W.frozen? ⟨w.heap.size + 1, 1, none⟩ = false ∧ W.frozen? ⟨w.heap.size + 1, 2, none⟩ = false) := Lib.hid (fun W x => by
    have := L1.out.ext x
    exact ⟨this.cell 0, this.cell 1, this.cell 2, this.frozen 0, this.frozen 1, this.frozen 2⟩)
  have xt : Ext W0 W0.drew := (Ext.refl W0).drew
  have hs0 : w.heap.size + 1 + 1 ≤ W0.drew.heap.size := s1
  obtain ⟨y0, y1, y2⟩ := HC.out W0 rfl
  go_region_held3 (fun W => W.cell? ⟨w.heap.size, 0, none⟩ = some (.slice A0 n0 c0) ∧ W.cell? ⟨w.heap.size, 1, none⟩ = some (.slice A1 n1 c1) ∧ W.cell? ⟨w.heap.size, 2, none⟩ = some (.slice A2 n2 c2)) (first | (with_reducible exact HC.out _ KB.out) | (exact HC.out _ ((Below.heap_setCell _ ⟨w.heap.size + 1, 2, none⟩ _ _ hne).trans ((Below.heap_setCell _ ⟨w.heap.size + 1, 1, none⟩ _ _ hne).trans ((Below.heap_setCell _ ⟨w.heap.size + 1, 0, none⟩ _ _ hne).trans KB.out)))) | go_keep) (first
    | (go_at_call_of 21 (Value.slice A0 n0 c0); refine (H0.out _ xt).mono ?_; rintro e w5 ⟨v5, rfl, r5, x5⟩; obtain ⟨D5, d5, rfl, _, _, _⟩ := r5.form; obtain ⟨t0, t1, t2, f0, f1, f2⟩ := HD.out w5 (xt.trans x5); have z5 := x5.size; replace xt := xt.trans x5; have KB := Lib.hid (xt.block _ s0); (try replace Y6 := Lib.hid (Y6.out.trans x5)); (try replace Y7 := Lib.hid (Y7.out.trans x5)); have Y5 := Lib.hid (Ext.refl w5); have R5 := Lib.hid r5; clear r5 x5)
    | (go_at_call_of 21 (Value.slice A1 n1 c1); refine (H1.out _ xt).mono ?_; rintro e w6 ⟨v6, rfl, r6, x6⟩; obtain ⟨D6, d6, rfl, _, _, _⟩ := r6.form; obtain ⟨t0, t1, t2, f0, f1, f2⟩ := HD.out w6 (xt.trans x6); have z6 := x6.size; replace xt := xt.trans x6; have KB := Lib.hid (xt.block _ s0); (try replace Y5 := Lib.hid (Y5.out.trans x6)); (try replace Y7 := Lib.hid (Y7.out.trans x6)); have Y6 := Lib.hid (Ext.refl w6); have R6 := Lib.hid r6; clear r6 x6)
    | (go_at_call 22; refine (H2.out _ xt).mono ?_; rintro e w7 ⟨v7, rfl, r7, x7⟩; obtain ⟨D7, d7, rfl, _, _, _⟩ := PRow.form r7; obtain ⟨t0, t1, t2, f0, f1, f2⟩ := HD.out w7 (xt.trans x7); have z7 := x7.size; replace xt := xt.trans x7; have KB := Lib.hid (xt.block _ s0); (try replace Y5 := Lib.hid (Y5.out.trans x7)); (try replace Y6 := Lib.hid (Y6.out.trans x7)); have Y7 := Lib.hid (Ext.refl w7); have R7 := Lib.hid r7; clear r7 x7))
  all_goals
    go_wp2_with fail
    have r5 := R5.out.ext Y5.out
    have r6 := R6.out.ext Y6.out
    have r7 := PRow.ext R7.out Y7.out
    have p5 := typed_row R5.out
    have p6 := typed_row R6.out
    have L5 := (((L1.out.ext xt).set 0 (.slice D5 st.q.length d5)).set 1 (.slice D6 st.s.length d6)).set 2 (.slice D7 st.m.length d7)
    have fz : Fr (fun q => q = w.heap.size + 1) w7 (((w7.setCell ⟨w.heap.size + 1, 0, none⟩ (.slice D5 st.q.length d5)).setCell ⟨w.heap.size + 1, 1, none⟩ (.slice D6 st.s.length d6)).setCell ⟨w.heap.size + 1, 2, none⟩ (.slice D7 st.m.length d7)) := Fr.setCell (p := ⟨w.heap.size + 1, 2, none⟩) (Fr.setCell (p := ⟨w.heap.size + 1, 1, none⟩) (Fr.setCell (p := ⟨w.heap.size + 1, 0, none⟩) (Fr.refl (fun q => q = w.heap.size + 1) w7) (Or.inl rfl) _) (Or.inl rfl) _) (Or.inl rfl) _
    have q5 := typed_row r5
    have q6 := typed_row r6
    have q7 := typed_row r7
    have e5 := r5.fr fz (fun g hg e => by have := (q5 g hg).1; omega)
    have e6 := r6.fr fz (fun g hg e => by have := (q6 g hg).1; omega)
    have e7 := PRow.fr r7 fz (fun g hg e => by have := (q7 g hg).1; omega)
    have pp : Parts (((w7.setCell ⟨w.heap.size + 1, 0, none⟩ (.slice D5 st.q.length d5)).setCell ⟨w.heap.size + 1, 1, none⟩ (.slice D6 st.s.length d6)).setCell ⟨w.heap.size + 1, 2, none⟩ (.slice D7 st.m.length d7)) w.heap.size (.slice D5 st.q.length d5) (.slice D6 st.s.length d6) (.slice D7 st.m.length d7) st :=
      ⟨QRow.of_row (owns_low e5 (by omega)), owns_low e6 (by omega), owns_low e7 (by omega), fun g hg hg' => by have h1 := (p5 g hg).2.1; have h2 := (p6 g hg').1; omega⟩
    have XX := fz.ext (XB.out.trans xt) (fun q e => by omega)
    have PP := Lib.hid pp
    clear r5 r6 r7 q5 q6 q7 e5 e6 e7 pp p5 p6 t0 t1 t2 f0 f1 f2
    generalize (((w7.setCell ⟨w.heap.size + 1, 0, none⟩ (.slice D5 st.q.length d5)).setCell ⟨w.heap.size + 1, 1, none⟩ (.slice D6 st.s.length d6)).setCell ⟨w.heap.size + 1, 2, none⟩ (.slice D7 st.m.length d7)) = W7 at *
    have k0 : W7.cell? ⟨w.heap.size + 1, 0, none⟩ = some (.slice D5 st.q.length d5) := L5.cell 0
    have k1 : W7.cell? ⟨w.heap.size + 1, 1, none⟩ = some (.slice D6 st.s.length d6) := L5.cell 1
    have k2 : W7.cell? ⟨w.heap.size + 1, 2, none⟩ = some (.slice D7 st.m.length d7) := L5.cell 2
    exact bodyPost_ret (v := .agg #[.slice D5 st.q.length d5, .slice D6 st.s.length d6, .slice D7 st.m.length d7]) (by simp [results, Try.results17, go_sem, k0, k1, k2]) rfl ⟨_, _, _, rfl, XX, PP.out⟩
end Go.Proofs.Ythbngenjcgclgaa
