/- gather of package lines: the lines of bytes, and of words. Conditions: those that each theorem names. -/
import Derived.Test.YtolengkegjipaaaGreatKLine
namespace Go.Proofs.YtolengkegjipaaaGreat
open Go.ChangeShapes Go.WideShapes Go.ChangeAt Go.RowKit Go.Shelf
set_option linter.unusedVariables false
attribute [local go_sem] Oper.semAt_some
/-- What hands back lines, and no error. -/
def LinesBack (w0 : World) (n : Nat) (zs : List Int) (r : Ending) (w' : World) : Prop := ∃ v, r = .returned (.tuple #[v, .int .i64 0]) ∧ RowN w' w0.heap.size 133 8 .u64 v n zs ∧ Ext w0 w'
theorem flat_words : ∀ (zs : List Int) (m : Nat), zs.length = m * 8 → (List.finRange m).flatMap (fun x : Fin m => (zs.drop (8 * x.val)).take 8) = zs := by
  intro zs m h
  have key : ∀ k, k ≤ m → ((List.finRange m).take k).flatMap (fun x : Fin m => (zs.drop (8 * x.val)).take 8) = zs.take (8 * k) := by
    intro k
    induction k with
    | zero => intro _; simp
    | succ k ih =>
      intro hk
      rw [finRange_take_succ m k (by omega), List.flatMap_append, ih (by omega), List.flatMap_cons, List.flatMap_nil, List.append_nil, show 8 * (k + 1) = 8 * k + 8 from by omega, List.take_add]
  have := key m (Nat.le_refl _)
  rwa [List.take_of_length_le (by simp), List.take_of_length_le (by omega)] at this
theorem new8v (w : World) (t : TypeId) (a b c d e f g i : Int) : ∀ j u, ([a, b, c, d, e, f, g, i].map (Value.int .u64))[j]? = some u → (w.alloc (.cells #[.int .u64 a, .int .u64 b, .int .u64 c, .int .u64 d, .int .u64 e, .int .u64 f, .int .u64 g, .int .u64 i] t)).cell? ((⟨w.heap.size, 0, none⟩ : Addr).add j) = some u := fun j u hu => by
  have hj : j < 8 := by
    rcases Nat.lt_or_ge j 8 with h1 | h1
    · exact h1
    · rw [List.getElem?_eq_none (by simpa using h1)] at hu; cases hu
  rw [new8 w t a b c d e f g i j hj]
  match j, hj with
  | 0, _ => exact hu
  | 1, _ => exact hu
  | 2, _ => exact hu
  | 3, _ => exact hu
  | 4, _ => exact hu
  | 5, _ => exact hu
  | 6, _ => exact hu
  | 7, _ => exact hu
set_option maxRecDepth 100000 in
set_option maxHeartbeats 4000000 in
theorem gatherW_of (A : Option Addr) (m cap : Nat) (zs : List Int) (w : World) (hl : zs.length = m * 8) (hm : m ≤ 262144) (hcap : m * 8 ≤ cap) (hcm : cap ≤ 9223372036854775807) (hz : Lim zs 18446744073709551616) (hA : Ints w .u64 A zs) :
    Calls Tryz.prog 67 #[.slice A (m * 8) cap, .int .i64 8, .func (.func 68) #[] #[]] w (LinesBack w m zs) := by
  obtain ⟨M, hmk, hrw⟩ : ∃ M : Array Value, (∀ W, (Instr.makeSlice 100 (.int .i64 0) (.int .i64 (m : Int))).run Tryz.prog W = .ok (.slice (some ⟨W.heap.size, 0, none⟩) 0 m) (W.alloc (.cells M 133))) ∧ ∀ W : World, RowN (W.alloc (.cells M 133)) W.heap.size 133 8 .u64 (.slice (some ⟨W.heap.size, 0, none⟩) 0 m) 0 [] :=
    ⟨_, fun W => make_lines 0 m (by omega) (by omega) W, fun W => RowN.madeLines W 0 m (by omega) (by omega)⟩
  obtain ⟨i0, hi, hz0, hz1, hz2⟩ := info_parts line_info
  have t1 : (((m : Int) * 8) % 8 != 0) = false := by rw [bne_eq_false_iff_eq]; omega
  have t2 : decide (262144 < (m : Int) * 8 / 8) = false := by simp; omega
  have t3 : (m : Int) * 8 / 8 = (m : Int) := by omega
  have t2' : decide (262144 < (m : Int)) = false := by simp; omega
  obtain ⟨F, n, HF, hfn, hro, hn⟩ := wide_fence
  refine (callsIn_wide (n := n)).1 ?_
  rw [← HF.out]
  refine callsIn_of_wp_marks Tryz.func67 rfl (hfn _) ?_ hro
  simp only [Tryz.ntmps67, List.size_toArray, List.length_cons, List.length_nil, Nat.reduceAdd, Nat.reduceSub, Array.replicate_succ, Array.replicate_zero, List.push_toArray, List.append_toArray, List.nil_append, List.cons_append]
  have h1 : 1 ≤ n := by omega
  gi_wp2_with (gi_at_call 84; refine (partW8_in F _ (hfn _) hro _ _ _ _).mono ?_; rintro e w' ⟨rfl, rfl⟩)
  have hb0 : Ext w (((((w.alloc (.cells #[.func (.func 68) #[] #[]] 130)).alloc (.cells M 133)).alloc (.cells #[.slice (some ⟨w.heap.size + 1, 0, none⟩) 0 m] 100)).alloc (.cells #[.slice A (m * 8) cap] 65)).alloc (.cells #[.int .i64 8] 3)) := (((((Ext.refl w).alloc _).alloc _).alloc _).alloc _).alloc _
  have bF : Boxed (((((w.alloc (.cells #[.func (.func 68) #[] #[]] 130)).alloc (.cells M 133)).alloc (.cells #[.slice (some ⟨w.heap.size + 1, 0, none⟩) 0 m] 100)).alloc (.cells #[.slice A (m * 8) cap] 65)).alloc (.cells #[.int .i64 8] 3)) w.heap.size 130 (.func (.func 68) #[] #[]) := by
    have h := Boxed.new w 130 (.func (.func 68) #[] #[])
    exact (((h.alloc _).alloc _).alloc _).alloc _
  have hsz : (((((w.alloc (.cells #[.func (.func 68) #[] #[]] 130)).alloc (.cells M 133)).alloc (.cells #[.slice (some ⟨w.heap.size + 1, 0, none⟩) 0 m] 100)).alloc (.cells #[.slice A (m * 8) cap] 65)).alloc (.cells #[.int .i64 8] 3)).heap.size = w.heap.size + 5 := by simp
  have bR : Boxed (((((w.alloc (.cells #[.func (.func 68) #[] #[]] 130)).alloc (.cells M 133)).alloc (.cells #[.slice (some ⟨w.heap.size + 1, 0, none⟩) 0 m] 100)).alloc (.cells #[.slice A (m * 8) cap] 65)).alloc (.cells #[.int .i64 8] 3)) (w.heap.size + 1 + 1) 100 (.slice (some ⟨w.heap.size + 1, 0, none⟩) 0 m) := by
    have h := Boxed.new ((w.alloc (.cells #[.func (.func 68) #[] #[]] 130)).alloc (.cells M 133)) 100 (.slice (some ⟨w.heap.size + 1, 0, none⟩) 0 m)
    simp only [World.size_alloc] at h
    exact (h.alloc _).alloc _
  have bI : Boxed (((((w.alloc (.cells #[.func (.func 68) #[] #[]] 130)).alloc (.cells M 133)).alloc (.cells #[.slice (some ⟨w.heap.size + 1, 0, none⟩) 0 m] 100)).alloc (.cells #[.slice A (m * 8) cap] 65)).alloc (.cells #[.int .i64 8] 3)) (w.heap.size + 1 + 1 + 1) 65 (.slice A (m * 8) cap) := by
    have h := Boxed.new (((w.alloc (.cells #[.func (.func 68) #[] #[]] 130)).alloc (.cells M 133)).alloc (.cells #[.slice (some ⟨w.heap.size + 1, 0, none⟩) 0 m] 100)) 65 (.slice A (m * 8) cap)
    simp only [World.size_alloc] at h
    exact h.alloc _
  have bZ : Boxed (((((w.alloc (.cells #[.func (.func 68) #[] #[]] 130)).alloc (.cells M 133)).alloc (.cells #[.slice (some ⟨w.heap.size + 1, 0, none⟩) 0 m] 100)).alloc (.cells #[.slice A (m * 8) cap] 65)).alloc (.cells #[.int .i64 8] 3)) (w.heap.size + 1 + 1 + 1 + 1) 3 (.int .i64 8) := by
    have h := Boxed.new ((((w.alloc (.cells #[.func (.func 68) #[] #[]] 130)).alloc (.cells M 133)).alloc (.cells #[.slice (some ⟨w.heap.size + 1, 0, none⟩) 0 m] 100)).alloc (.cells #[.slice A (m * 8) cap] 65)) 3 (.int .i64 8)
    simp only [World.size_alloc] at h
    exact h
  have hR0 : (((((w.alloc (.cells #[.func (.func 68) #[] #[]] 130)).alloc (.cells M 133)).alloc (.cells #[.slice (some ⟨w.heap.size + 1, 0, none⟩) 0 m] 100)).alloc (.cells #[.slice A (m * 8) cap] 65)).alloc (.cells #[.int .i64 8] 3)).ownsRow w.heap.size 133 8 (.slice (some ⟨w.heap.size + 1, 0, none⟩) 0 m) 0 [] := by
    have h := (hrw (w.alloc (.cells #[.func (.func 68) #[] #[]] 130))).mono (B' := w.heap.size) (by simp)
    simp only [World.size_alloc] at h
    exact ((World.ownsRow.alloc h _).alloc _).alloc _
  generalize (((((w.alloc (.cells #[.func (.func 68) #[] #[]] 130)).alloc (.cells M 133)).alloc (.cells #[.slice (some ⟨w.heap.size + 1, 0, none⟩) 0 m] 100)).alloc (.cells #[.slice A (m * 8) cap] 65)).alloc (.cells #[.int .i64 8] 3)) = W0 at *
  clear hrw hmk t1 t2 t2'
  have hSc : ∀ g, (g = w.heap.size ∨ g = w.heap.size + 1 + 1 + 1 ∨ g = w.heap.size + 1 + 1 + 1 + 1) → g ≠ w.heap.size + 1 + 1 ∧ ∃ c t' f, W0.heap[g]? = some (.cells c t' f) ∧ t' ≠ 133 := by
    rintro g (rfl | rfl | rfl)
    · exact ⟨by omega, _, _, _, bF, by decide⟩
    · exact ⟨by omega, _, _, _, bI, by decide⟩
    · exact ⟨by omega, _, _, _, bZ, by decide⟩
  have hNl : ∀ g, (g = w.heap.size ∨ g = w.heap.size + 1 + 1 + 1 ∨ g = w.heap.size + 1 + 1 + 1 + 1) → g < W0.heap.size := by rintro g (rfl | rfl | rfl) <;> omega
  have hAx : 0 < m → ∃ ad, A = some ad := fun h0 => by obtain ⟨ad, e, _⟩ := hA (by omega); exact ⟨ad, e⟩
  refine wpIn_rangeFunc_ownG hro (by omega) (gf := 92) (lb := #[.pointer (some ⟨w.heap.size + 1 + 1 + 1 + 1, 0, none⟩), .pointer (some ⟨w.heap.size + 1 + 1 + 1, 0, none⟩)]) rfl (hfn _) (enters_of Tryz.func92 (by kernel_rfl) rfl)
    (partW8_stops F (n - 1) (hfn _) hro (by omega) (w.heap.size + 1 + 1 + 1 + 1) (w.heap.size + 1 + 1 + 1) m cap A hAx (by omega) hcm (by omega) (fun g => g = w.heap.size ∨ g = w.heap.size + 1 + 1 + 1 ∨ g = w.heap.size + 1 + 1 + 1 + 1) (Or.inr (Or.inr rfl)) (Or.inr (Or.inl rfl)) W0 (by omega) (by omega) bZ.cell bI.cell)
    (fun h k => KeepAt.trans h k) (fun W l _ o' hl _ _ _ => KeepAt.putObj hNl W l o' hl) (Below.refl _ _) (fun _ => rfl)
    (fun (pre : List (Fin m)) W => (∃ v, Boxed W (w.heap.size + 1 + 1) 100 v ∧ W.ownsRow w.heap.size 133 8 v pre.length ((pre.flatMap (fun x : Fin m => (zs.drop (8 * x.val)).take 8)).map (Value.int .u64)) ∧ True) ∧ Below w.heap.size w W ∧ KeepAt (fun g => g = w.heap.size ∨ g = w.heap.size + 1 + 1 + 1 ∨ g = w.heap.size + 1 + 1 + 1 + 1) W0 W)
    (fun _ _ _ => False)
    (OwnFrom.and (Own.from (holdsRow_own w.heap.size (w.heap.size + 1 + 1) 100 133 8 (fun pre : List (Fin m) => pre.length) (fun pre : List (Fin m) => (pre.flatMap (fun x : Fin m => (zs.drop (8 * x.val)).take 8)).map (Value.int .u64)) (fun _ _ => True)) _) (OwnFrom.and (ownFrom_below (Nat.le_refl _) (by omega)) (Own.from (keepAt_own (fun g hg => by obtain ⟨_, c, t', f, h, _⟩ := hSc g hg; exact ⟨c, t', f, h⟩)) _)))
    (fun _ _ _ _ _ hs _ _ => hs)
    ⟨⟨_, bR, hR0, trivial⟩, hb0.below, KeepAt.refl _ _⟩
    (fun x => { tmps := #[.slice A (m * 8) cap, .int .i64 8, .func (.func 68) #[] #[], undef, undef, .pointer (some ⟨w.heap.size, 0, none⟩), .slice none 0 0, .int .i64 0, .pointer (some ⟨w.heap.size + 1 + 1, 0, none⟩), .slice (A.map (·.add (8 * x.val))) 8 8, .slice A (m * 8) cap, .int .i64 ((m : Int) * 8), .int .i64 8, .int .i64 0, .bool false, .slice A (m * 8) cap, .int .i64 ((m : Int) * 8), .int .i64 8, .int .i64 (m : Int), .bool false, .slice A (m * 8) cap, .int .i64 ((m : Int) * 8), .int .i64 8, .int .i64 (m : Int), .slice (some ⟨w.heap.size + 1, 0, none⟩) 0 m, .slice A (m * 8) cap, .int .i64 8, .func (.func 92) #[] #[.pointer (some ⟨w.heap.size + 1 + 1 + 1 + 1, 0, none⟩), .pointer (some ⟨w.heap.size + 1 + 1 + 1, 0, none⟩)], .slice (A.map (·.add (8 * x.val))) 8 8, undef, undef, undef, undef, undef, undef, undef], defers := [] }) ?assign ?body ?done ?stop
  case assign =>
    intro l x W K hK
    gi_wp2
    exact hK
  case body =>
    rintro l pre x W ⟨⟨v, hv, hrow, _⟩, hB, hKp⟩ hlt
    have hxm := x.isLt
    obtain ⟨ad, rfl⟩ := hAx (by omega)
    have hc := hv.cell
    have hvl := hv.lt
    have hcf : W.cell? ⟨w.heap.size, 0, none⟩ = some (.func (.func 68) #[] #[]) := (hKp.cell (Or.inl rfl) 0).trans bF.cell
    have hd : 1 ≤ n - 1 - 1 := by omega
    have hin : 8 * x.val + 8 ≤ zs.length := by omega
    have hI : Ints W .u64 (some (ad.add (8 * x.val))) ((zs.drop (8 * x.val)).take 8) := ((hA.ext (Ext.of hB)).part (8 * x.val) 8 hin (by omega))
    have hlen : ((zs.drop (8 * x.val)).take 8).length = 8 := by rw [List.length_take, List.length_drop]; omega
    obtain ⟨a0, a1, a2, a3, a4, a5, a6, a7, hws⟩ := eight (ls := (zs.drop (8 * x.val)).take 8) (by exact hlen)
    have HW : Hid (∀ W' : World, Ints W' .u64 (some (ad.add (8 * x.val))) ((zs.drop (8 * x.val)).take 8) → Calls Tryz.prog 68 #[.slice (some (ad.add (8 * x.val))) 8 8] W' fun e w' => e = .returned (.agg #[.int .u64 a0, .int .u64 a1, .int .u64 a2, .int .u64 a3, .int .u64 a4, .int .u64 a5, .int .u64 a6, .int .u64 a7]) ∧ Ext W' w') := Lib.hid (fun W' h => by
      rw [hws] at h
      exact together_of _ 8 a0 a1 a2 a3 a4 a5 a6 a7 W' h)
    have HWS := Lib.hid hws
    clear hws hlen hin
    gi_wp2
    refine wpIn_region_orders mixed [[0, 1, 2, 3, 4, 5, 6], [0, 2, 1, 3, 4, 5, 6], [1, 0, 2, 3, 4, 5, 6], [1, 2, 0, 3, 4, 5, 6], [1, 2, 3, 0, 4, 5, 6], [1, 2, 3, 4, 0, 5, 6], [2, 0, 1, 3, 4, 5, 6], [2, 1, 0, 3, 4, 5, 6], [2, 1, 3, 0, 4, 5, 6], [2, 1, 3, 4, 0, 5, 6]] (by kernel_rfl) ?_
    intro ord hord
    simp only [List.mem_cons, List.not_mem_nil, or_false] at hord
    rcases hord with rfl | rfl | rfl | rfl | rfl | rfl | rfl | rfl | rfl | rfl
    all_goals simp only [List.filterMap_cons, List.filterMap_nil, List.getElem?_toArray, List.getElem?_cons_zero, List.getElem?_cons_succ]
    · refine wpListIn_plain rfl (fun K hK => ?_)
      go_simp
      refine hK _ _ ?_
      clear hK K
      refine wpListIn_plain rfl (fun K hK => ?_)
      go_simp
      refine hK _ _ ?_
      clear hK K
      refine wpListIn_plain rfl (fun K hK => ?_)
      go_simp
      refine hK _ _ ?_
      clear hK K
      refine wpListIn_plain rfl (fun K hK => ?_)
      go_simp
      refine (CallsIn.inRound l (by rw [HF.out]; exact callsIn_wide.2 (HW.out _ (by exact hI)))).mono ?_
      rintro e w1 ⟨rfl, hx1⟩
      have hxW : Ext W w1 := ((Ext.refl W).drew).trans hx1
      have hc1 : w1.cell? ⟨w.heap.size + 1 + 1, 0, none⟩ = some v := (Below.cell hxW.below (by exact hvl)).trans hc
      have hvl1 : w.heap.size + 1 + 1 < w1.heap.size := Nat.lt_of_lt_of_le hvl hxW.size
      have hrow1 := RowN.ext (show RowN W w.heap.size 133 8 .u64 v pre.length (pre.flatMap (fun x : Fin m => (zs.drop (8 * x.val)).take 8)) from hrow) hxW
      refine hK _ _ ?_
      clear hK K
      refine wpListIn_plain rfl (fun K hK => ?_)
      go_simp
      refine hK _ _ ?_
      clear hK K
      refine wpListIn_append_own _ rfl _ _ 100 rfl w.heap.size 133 i0 (.agg z8) 8 64 Tryz.underlying100 hi hz0 hz1 hz2 rfl (by decide) v pre.length _ (by rfl) (by exact (World.ownsRow.alloc hrow1 _)) ⟨w1.heap.size, 0, none⟩ 1 1 ([a0, a1, a2, a3, a4, a5, a6, a7].map (Value.int .u64)) (by rfl) rfl (by exact new8v w1 _ a0 a1 a2 a3 a4 a5 a6 a7) (by intro u hu; obtain ⟨y, _, rfl⟩ := List.mem_map.1 hu; rfl) (by unfold maxLen; omega) (by omega) (by have := hB.size; have := hx1.size; simp at this; simp; omega) ?_
      intro v' w2 hown' hgrow _
      obtain ⟨g', cap', rfl⟩ := ownsRow_succ hown'
      obtain ⟨hv1, hv2, hr2, hk2, hb2, ha2⟩ := collect_step hv (by decide) hrow hB.size (by omega) (by exact hxW.alloc _) hKp hSc hown' hgrow
      have hc3 := hv1.cell
      have hf3 := hv1.frozen
      refine wpListIn_plain rfl (fun K hK => ?_)
      go_simp
      refine hK _ _ ?_
      clear hK K
      refine wpListIn_nil ?_
      gi_wp2_with fail
      exact ⟨hk2.from _, ha2, ⟨_, hv2, by rw [List.flatMap_append, List.map_append, List.length_append, List.flatMap_cons, List.flatMap_nil, List.append_nil, HWS.out]; exact hr2, trivial⟩, hB.trans hb2, hKp.trans ha2⟩
    · refine wpListIn_plain rfl (fun K hK => ?_)
      go_simp
      refine hK _ _ ?_
      clear hK K
      refine wpListIn_plain rfl (fun K hK => ?_)
      go_simp
      refine hK _ _ ?_
      clear hK K
      refine wpListIn_plain rfl (fun K hK => ?_)
      go_simp
      refine hK _ _ ?_
      clear hK K
      refine wpListIn_plain rfl (fun K hK => ?_)
      go_simp
      refine (CallsIn.inRound l (by rw [HF.out]; exact callsIn_wide.2 (HW.out _ (by exact hI)))).mono ?_
      rintro e w1 ⟨rfl, hx1⟩
      have hxW : Ext W w1 := ((Ext.refl W).drew).trans hx1
      have hc1 : w1.cell? ⟨w.heap.size + 1 + 1, 0, none⟩ = some v := (Below.cell hxW.below (by exact hvl)).trans hc
      have hvl1 : w.heap.size + 1 + 1 < w1.heap.size := Nat.lt_of_lt_of_le hvl hxW.size
      have hrow1 := RowN.ext (show RowN W w.heap.size 133 8 .u64 v pre.length (pre.flatMap (fun x : Fin m => (zs.drop (8 * x.val)).take 8)) from hrow) hxW
      refine hK _ _ ?_
      clear hK K
      refine wpListIn_plain rfl (fun K hK => ?_)
      go_simp
      refine hK _ _ ?_
      clear hK K
      refine wpListIn_append_own _ rfl _ _ 100 rfl w.heap.size 133 i0 (.agg z8) 8 64 Tryz.underlying100 hi hz0 hz1 hz2 rfl (by decide) v pre.length _ (by rfl) (by exact (World.ownsRow.alloc hrow1 _)) ⟨w1.heap.size, 0, none⟩ 1 1 ([a0, a1, a2, a3, a4, a5, a6, a7].map (Value.int .u64)) (by rfl) rfl (by exact new8v w1 _ a0 a1 a2 a3 a4 a5 a6 a7) (by intro u hu; obtain ⟨y, _, rfl⟩ := List.mem_map.1 hu; rfl) (by unfold maxLen; omega) (by omega) (by have := hB.size; have := hx1.size; simp at this; simp; omega) ?_
      intro v' w2 hown' hgrow _
      obtain ⟨g', cap', rfl⟩ := ownsRow_succ hown'
      obtain ⟨hv1, hv2, hr2, hk2, hb2, ha2⟩ := collect_step hv (by decide) hrow hB.size (by omega) (by exact hxW.alloc _) hKp hSc hown' hgrow
      have hc3 := hv1.cell
      have hf3 := hv1.frozen
      refine wpListIn_plain rfl (fun K hK => ?_)
      go_simp
      refine hK _ _ ?_
      clear hK K
      refine wpListIn_nil ?_
      gi_wp2_with fail
      exact ⟨hk2.from _, ha2, ⟨_, hv2, by rw [List.flatMap_append, List.map_append, List.length_append, List.flatMap_cons, List.flatMap_nil, List.append_nil, HWS.out]; exact hr2, trivial⟩, hB.trans hb2, hKp.trans ha2⟩
    · refine wpListIn_plain rfl (fun K hK => ?_)
      go_simp
      refine hK _ _ ?_
      clear hK K
      refine wpListIn_plain rfl (fun K hK => ?_)
      go_simp
      refine hK _ _ ?_
      clear hK K
      refine wpListIn_plain rfl (fun K hK => ?_)
      go_simp
      refine hK _ _ ?_
      clear hK K
      refine wpListIn_plain rfl (fun K hK => ?_)
      go_simp
      refine (CallsIn.inRound l (by rw [HF.out]; exact callsIn_wide.2 (HW.out _ (by exact hI)))).mono ?_
      rintro e w1 ⟨rfl, hx1⟩
      have hxW : Ext W w1 := ((Ext.refl W).drew).trans hx1
      have hc1 : w1.cell? ⟨w.heap.size + 1 + 1, 0, none⟩ = some v := (Below.cell hxW.below (by exact hvl)).trans hc
      have hvl1 : w.heap.size + 1 + 1 < w1.heap.size := Nat.lt_of_lt_of_le hvl hxW.size
      have hrow1 := RowN.ext (show RowN W w.heap.size 133 8 .u64 v pre.length (pre.flatMap (fun x : Fin m => (zs.drop (8 * x.val)).take 8)) from hrow) hxW
      refine hK _ _ ?_
      clear hK K
      refine wpListIn_plain rfl (fun K hK => ?_)
      go_simp
      refine hK _ _ ?_
      clear hK K
      refine wpListIn_append_own _ rfl _ _ 100 rfl w.heap.size 133 i0 (.agg z8) 8 64 Tryz.underlying100 hi hz0 hz1 hz2 rfl (by decide) v pre.length _ (by rfl) (by exact (World.ownsRow.alloc hrow1 _)) ⟨w1.heap.size, 0, none⟩ 1 1 ([a0, a1, a2, a3, a4, a5, a6, a7].map (Value.int .u64)) (by rfl) rfl (by exact new8v w1 _ a0 a1 a2 a3 a4 a5 a6 a7) (by intro u hu; obtain ⟨y, _, rfl⟩ := List.mem_map.1 hu; rfl) (by unfold maxLen; omega) (by omega) (by have := hB.size; have := hx1.size; simp at this; simp; omega) ?_
      intro v' w2 hown' hgrow _
      obtain ⟨g', cap', rfl⟩ := ownsRow_succ hown'
      obtain ⟨hv1, hv2, hr2, hk2, hb2, ha2⟩ := collect_step hv (by decide) hrow hB.size (by omega) (by exact hxW.alloc _) hKp hSc hown' hgrow
      have hc3 := hv1.cell
      have hf3 := hv1.frozen
      refine wpListIn_plain rfl (fun K hK => ?_)
      go_simp
      refine hK _ _ ?_
      clear hK K
      refine wpListIn_nil ?_
      gi_wp2_with fail
      exact ⟨hk2.from _, ha2, ⟨_, hv2, by rw [List.flatMap_append, List.map_append, List.length_append, List.flatMap_cons, List.flatMap_nil, List.append_nil, HWS.out]; exact hr2, trivial⟩, hB.trans hb2, hKp.trans ha2⟩
    · refine wpListIn_plain rfl (fun K hK => ?_)
      go_simp
      refine hK _ _ ?_
      clear hK K
      refine wpListIn_plain rfl (fun K hK => ?_)
      go_simp
      refine hK _ _ ?_
      clear hK K
      refine wpListIn_plain rfl (fun K hK => ?_)
      go_simp
      refine hK _ _ ?_
      clear hK K
      refine wpListIn_plain rfl (fun K hK => ?_)
      go_simp
      refine (CallsIn.inRound l (by rw [HF.out]; exact callsIn_wide.2 (HW.out _ (by exact hI)))).mono ?_
      rintro e w1 ⟨rfl, hx1⟩
      have hxW : Ext W w1 := ((Ext.refl W).drew).trans hx1
      have hc1 : w1.cell? ⟨w.heap.size + 1 + 1, 0, none⟩ = some v := (Below.cell hxW.below (by exact hvl)).trans hc
      have hvl1 : w.heap.size + 1 + 1 < w1.heap.size := Nat.lt_of_lt_of_le hvl hxW.size
      have hrow1 := RowN.ext (show RowN W w.heap.size 133 8 .u64 v pre.length (pre.flatMap (fun x : Fin m => (zs.drop (8 * x.val)).take 8)) from hrow) hxW
      refine hK _ _ ?_
      clear hK K
      refine wpListIn_plain rfl (fun K hK => ?_)
      go_simp
      refine hK _ _ ?_
      clear hK K
      refine wpListIn_append_own _ rfl _ _ 100 rfl w.heap.size 133 i0 (.agg z8) 8 64 Tryz.underlying100 hi hz0 hz1 hz2 rfl (by decide) v pre.length _ (by rfl) (by exact (World.ownsRow.alloc hrow1 _)) ⟨w1.heap.size, 0, none⟩ 1 1 ([a0, a1, a2, a3, a4, a5, a6, a7].map (Value.int .u64)) (by rfl) rfl (by exact new8v w1 _ a0 a1 a2 a3 a4 a5 a6 a7) (by intro u hu; obtain ⟨y, _, rfl⟩ := List.mem_map.1 hu; rfl) (by unfold maxLen; omega) (by omega) (by have := hB.size; have := hx1.size; simp at this; simp; omega) ?_
      intro v' w2 hown' hgrow _
      obtain ⟨g', cap', rfl⟩ := ownsRow_succ hown'
      obtain ⟨hv1, hv2, hr2, hk2, hb2, ha2⟩ := collect_step hv (by decide) hrow hB.size (by omega) (by exact hxW.alloc _) hKp hSc hown' hgrow
      have hc3 := hv1.cell
      have hf3 := hv1.frozen
      refine wpListIn_plain rfl (fun K hK => ?_)
      go_simp
      refine hK _ _ ?_
      clear hK K
      refine wpListIn_nil ?_
      gi_wp2_with fail
      exact ⟨hk2.from _, ha2, ⟨_, hv2, by rw [List.flatMap_append, List.map_append, List.length_append, List.flatMap_cons, List.flatMap_nil, List.append_nil, HWS.out]; exact hr2, trivial⟩, hB.trans hb2, hKp.trans ha2⟩
    · refine wpListIn_plain rfl (fun K hK => ?_)
      go_simp
      refine hK _ _ ?_
      clear hK K
      refine wpListIn_plain rfl (fun K hK => ?_)
      go_simp
      refine hK _ _ ?_
      clear hK K
      refine wpListIn_plain rfl (fun K hK => ?_)
      go_simp
      refine (CallsIn.inRound l (by rw [HF.out]; exact callsIn_wide.2 (HW.out _ (by exact hI)))).mono ?_
      rintro e w1 ⟨rfl, hx1⟩
      have hxW : Ext W w1 := ((Ext.refl W).drew).trans hx1
      have hc1 : w1.cell? ⟨w.heap.size + 1 + 1, 0, none⟩ = some v := (Below.cell hxW.below (by exact hvl)).trans hc
      have hvl1 : w.heap.size + 1 + 1 < w1.heap.size := Nat.lt_of_lt_of_le hvl hxW.size
      have hrow1 := RowN.ext (show RowN W w.heap.size 133 8 .u64 v pre.length (pre.flatMap (fun x : Fin m => (zs.drop (8 * x.val)).take 8)) from hrow) hxW
      refine hK _ _ ?_
      clear hK K
      refine wpListIn_plain rfl (fun K hK => ?_)
      go_simp
      refine hK _ _ ?_
      clear hK K
      refine wpListIn_plain rfl (fun K hK => ?_)
      go_simp
      refine hK _ _ ?_
      clear hK K
      refine wpListIn_append_own _ rfl _ _ 100 rfl w.heap.size 133 i0 (.agg z8) 8 64 Tryz.underlying100 hi hz0 hz1 hz2 rfl (by decide) v pre.length _ (by rfl) (by exact (World.ownsRow.alloc hrow1 _)) ⟨w1.heap.size, 0, none⟩ 1 1 ([a0, a1, a2, a3, a4, a5, a6, a7].map (Value.int .u64)) (by rfl) rfl (by exact new8v w1 _ a0 a1 a2 a3 a4 a5 a6 a7) (by intro u hu; obtain ⟨y, _, rfl⟩ := List.mem_map.1 hu; rfl) (by unfold maxLen; omega) (by omega) (by have := hB.size; have := hx1.size; simp at this; simp; omega) ?_
      intro v' w2 hown' hgrow _
      obtain ⟨g', cap', rfl⟩ := ownsRow_succ hown'
      obtain ⟨hv1, hv2, hr2, hk2, hb2, ha2⟩ := collect_step hv (by decide) hrow hB.size (by omega) (by exact hxW.alloc _) hKp hSc hown' hgrow
      have hc3 := hv1.cell
      have hf3 := hv1.frozen
      refine wpListIn_plain rfl (fun K hK => ?_)
      go_simp
      refine hK _ _ ?_
      clear hK K
      refine wpListIn_nil ?_
      gi_wp2_with fail
      exact ⟨hk2.from _, ha2, ⟨_, hv2, by rw [List.flatMap_append, List.map_append, List.length_append, List.flatMap_cons, List.flatMap_nil, List.append_nil, HWS.out]; exact hr2, trivial⟩, hB.trans hb2, hKp.trans ha2⟩
    · refine wpListIn_plain rfl (fun K hK => ?_)
      go_simp
      refine hK _ _ ?_
      clear hK K
      refine wpListIn_plain rfl (fun K hK => ?_)
      go_simp
      refine hK _ _ ?_
      clear hK K
      refine wpListIn_plain rfl (fun K hK => ?_)
      go_simp
      refine (CallsIn.inRound l (by rw [HF.out]; exact callsIn_wide.2 (HW.out _ (by exact hI)))).mono ?_
      rintro e w1 ⟨rfl, hx1⟩
      have hxW : Ext W w1 := ((Ext.refl W).drew).trans hx1
      have hc1 : w1.cell? ⟨w.heap.size + 1 + 1, 0, none⟩ = some v := (Below.cell hxW.below (by exact hvl)).trans hc
      have hvl1 : w.heap.size + 1 + 1 < w1.heap.size := Nat.lt_of_lt_of_le hvl hxW.size
      have hrow1 := RowN.ext (show RowN W w.heap.size 133 8 .u64 v pre.length (pre.flatMap (fun x : Fin m => (zs.drop (8 * x.val)).take 8)) from hrow) hxW
      refine hK _ _ ?_
      clear hK K
      refine wpListIn_plain rfl (fun K hK => ?_)
      go_simp
      refine hK _ _ ?_
      clear hK K
      refine wpListIn_plain rfl (fun K hK => ?_)
      go_simp
      refine hK _ _ ?_
      clear hK K
      refine wpListIn_append_own _ rfl _ _ 100 rfl w.heap.size 133 i0 (.agg z8) 8 64 Tryz.underlying100 hi hz0 hz1 hz2 rfl (by decide) v pre.length _ (by rfl) (by exact (World.ownsRow.alloc hrow1 _)) ⟨w1.heap.size, 0, none⟩ 1 1 ([a0, a1, a2, a3, a4, a5, a6, a7].map (Value.int .u64)) (by rfl) rfl (by exact new8v w1 _ a0 a1 a2 a3 a4 a5 a6 a7) (by intro u hu; obtain ⟨y, _, rfl⟩ := List.mem_map.1 hu; rfl) (by unfold maxLen; omega) (by omega) (by have := hB.size; have := hx1.size; simp at this; simp; omega) ?_
      intro v' w2 hown' hgrow _
      obtain ⟨g', cap', rfl⟩ := ownsRow_succ hown'
      obtain ⟨hv1, hv2, hr2, hk2, hb2, ha2⟩ := collect_step hv (by decide) hrow hB.size (by omega) (by exact hxW.alloc _) hKp hSc hown' hgrow
      have hc3 := hv1.cell
      have hf3 := hv1.frozen
      refine wpListIn_plain rfl (fun K hK => ?_)
      go_simp
      refine hK _ _ ?_
      clear hK K
      refine wpListIn_nil ?_
      gi_wp2_with fail
      exact ⟨hk2.from _, ha2, ⟨_, hv2, by rw [List.flatMap_append, List.map_append, List.length_append, List.flatMap_cons, List.flatMap_nil, List.append_nil, HWS.out]; exact hr2, trivial⟩, hB.trans hb2, hKp.trans ha2⟩
    · refine wpListIn_plain rfl (fun K hK => ?_)
      go_simp
      refine hK _ _ ?_
      clear hK K
      refine wpListIn_plain rfl (fun K hK => ?_)
      go_simp
      refine hK _ _ ?_
      clear hK K
      refine wpListIn_plain rfl (fun K hK => ?_)
      go_simp
      refine hK _ _ ?_
      clear hK K
      refine wpListIn_plain rfl (fun K hK => ?_)
      go_simp
      refine (CallsIn.inRound l (by rw [HF.out]; exact callsIn_wide.2 (HW.out _ (by exact hI)))).mono ?_
      rintro e w1 ⟨rfl, hx1⟩
      have hxW : Ext W w1 := ((Ext.refl W).drew).trans hx1
      have hc1 : w1.cell? ⟨w.heap.size + 1 + 1, 0, none⟩ = some v := (Below.cell hxW.below (by exact hvl)).trans hc
      have hvl1 : w.heap.size + 1 + 1 < w1.heap.size := Nat.lt_of_lt_of_le hvl hxW.size
      have hrow1 := RowN.ext (show RowN W w.heap.size 133 8 .u64 v pre.length (pre.flatMap (fun x : Fin m => (zs.drop (8 * x.val)).take 8)) from hrow) hxW
      refine hK _ _ ?_
      clear hK K
      refine wpListIn_plain rfl (fun K hK => ?_)
      go_simp
      refine hK _ _ ?_
      clear hK K
      refine wpListIn_append_own _ rfl _ _ 100 rfl w.heap.size 133 i0 (.agg z8) 8 64 Tryz.underlying100 hi hz0 hz1 hz2 rfl (by decide) v pre.length _ (by rfl) (by exact (World.ownsRow.alloc hrow1 _)) ⟨w1.heap.size, 0, none⟩ 1 1 ([a0, a1, a2, a3, a4, a5, a6, a7].map (Value.int .u64)) (by rfl) rfl (by exact new8v w1 _ a0 a1 a2 a3 a4 a5 a6 a7) (by intro u hu; obtain ⟨y, _, rfl⟩ := List.mem_map.1 hu; rfl) (by unfold maxLen; omega) (by omega) (by have := hB.size; have := hx1.size; simp at this; simp; omega) ?_
      intro v' w2 hown' hgrow _
      obtain ⟨g', cap', rfl⟩ := ownsRow_succ hown'
      obtain ⟨hv1, hv2, hr2, hk2, hb2, ha2⟩ := collect_step hv (by decide) hrow hB.size (by omega) (by exact hxW.alloc _) hKp hSc hown' hgrow
      have hc3 := hv1.cell
      have hf3 := hv1.frozen
      refine wpListIn_plain rfl (fun K hK => ?_)
      go_simp
      refine hK _ _ ?_
      clear hK K
      refine wpListIn_nil ?_
      gi_wp2_with fail
      exact ⟨hk2.from _, ha2, ⟨_, hv2, by rw [List.flatMap_append, List.map_append, List.length_append, List.flatMap_cons, List.flatMap_nil, List.append_nil, HWS.out]; exact hr2, trivial⟩, hB.trans hb2, hKp.trans ha2⟩
    · refine wpListIn_plain rfl (fun K hK => ?_)
      go_simp
      refine hK _ _ ?_
      clear hK K
      refine wpListIn_plain rfl (fun K hK => ?_)
      go_simp
      refine hK _ _ ?_
      clear hK K
      refine wpListIn_plain rfl (fun K hK => ?_)
      go_simp
      refine hK _ _ ?_
      clear hK K
      refine wpListIn_plain rfl (fun K hK => ?_)
      go_simp
      refine (CallsIn.inRound l (by rw [HF.out]; exact callsIn_wide.2 (HW.out _ (by exact hI)))).mono ?_
      rintro e w1 ⟨rfl, hx1⟩
      have hxW : Ext W w1 := ((Ext.refl W).drew).trans hx1
      have hc1 : w1.cell? ⟨w.heap.size + 1 + 1, 0, none⟩ = some v := (Below.cell hxW.below (by exact hvl)).trans hc
      have hvl1 : w.heap.size + 1 + 1 < w1.heap.size := Nat.lt_of_lt_of_le hvl hxW.size
      have hrow1 := RowN.ext (show RowN W w.heap.size 133 8 .u64 v pre.length (pre.flatMap (fun x : Fin m => (zs.drop (8 * x.val)).take 8)) from hrow) hxW
      refine hK _ _ ?_
      clear hK K
      refine wpListIn_plain rfl (fun K hK => ?_)
      go_simp
      refine hK _ _ ?_
      clear hK K
      refine wpListIn_append_own _ rfl _ _ 100 rfl w.heap.size 133 i0 (.agg z8) 8 64 Tryz.underlying100 hi hz0 hz1 hz2 rfl (by decide) v pre.length _ (by rfl) (by exact (World.ownsRow.alloc hrow1 _)) ⟨w1.heap.size, 0, none⟩ 1 1 ([a0, a1, a2, a3, a4, a5, a6, a7].map (Value.int .u64)) (by rfl) rfl (by exact new8v w1 _ a0 a1 a2 a3 a4 a5 a6 a7) (by intro u hu; obtain ⟨y, _, rfl⟩ := List.mem_map.1 hu; rfl) (by unfold maxLen; omega) (by omega) (by have := hB.size; have := hx1.size; simp at this; simp; omega) ?_
      intro v' w2 hown' hgrow _
      obtain ⟨g', cap', rfl⟩ := ownsRow_succ hown'
      obtain ⟨hv1, hv2, hr2, hk2, hb2, ha2⟩ := collect_step hv (by decide) hrow hB.size (by omega) (by exact hxW.alloc _) hKp hSc hown' hgrow
      have hc3 := hv1.cell
      have hf3 := hv1.frozen
      refine wpListIn_plain rfl (fun K hK => ?_)
      go_simp
      refine hK _ _ ?_
      clear hK K
      refine wpListIn_nil ?_
      gi_wp2_with fail
      exact ⟨hk2.from _, ha2, ⟨_, hv2, by rw [List.flatMap_append, List.map_append, List.length_append, List.flatMap_cons, List.flatMap_nil, List.append_nil, HWS.out]; exact hr2, trivial⟩, hB.trans hb2, hKp.trans ha2⟩
    · refine wpListIn_plain rfl (fun K hK => ?_)
      go_simp
      refine hK _ _ ?_
      clear hK K
      refine wpListIn_plain rfl (fun K hK => ?_)
      go_simp
      refine hK _ _ ?_
      clear hK K
      refine wpListIn_plain rfl (fun K hK => ?_)
      go_simp
      refine (CallsIn.inRound l (by rw [HF.out]; exact callsIn_wide.2 (HW.out _ (by exact hI)))).mono ?_
      rintro e w1 ⟨rfl, hx1⟩
      have hxW : Ext W w1 := ((Ext.refl W).drew).trans hx1
      have hc1 : w1.cell? ⟨w.heap.size + 1 + 1, 0, none⟩ = some v := (Below.cell hxW.below (by exact hvl)).trans hc
      have hvl1 : w.heap.size + 1 + 1 < w1.heap.size := Nat.lt_of_lt_of_le hvl hxW.size
      have hrow1 := RowN.ext (show RowN W w.heap.size 133 8 .u64 v pre.length (pre.flatMap (fun x : Fin m => (zs.drop (8 * x.val)).take 8)) from hrow) hxW
      refine hK _ _ ?_
      clear hK K
      refine wpListIn_plain rfl (fun K hK => ?_)
      go_simp
      refine hK _ _ ?_
      clear hK K
      refine wpListIn_plain rfl (fun K hK => ?_)
      go_simp
      refine hK _ _ ?_
      clear hK K
      refine wpListIn_append_own _ rfl _ _ 100 rfl w.heap.size 133 i0 (.agg z8) 8 64 Tryz.underlying100 hi hz0 hz1 hz2 rfl (by decide) v pre.length _ (by rfl) (by exact (World.ownsRow.alloc hrow1 _)) ⟨w1.heap.size, 0, none⟩ 1 1 ([a0, a1, a2, a3, a4, a5, a6, a7].map (Value.int .u64)) (by rfl) rfl (by exact new8v w1 _ a0 a1 a2 a3 a4 a5 a6 a7) (by intro u hu; obtain ⟨y, _, rfl⟩ := List.mem_map.1 hu; rfl) (by unfold maxLen; omega) (by omega) (by have := hB.size; have := hx1.size; simp at this; simp; omega) ?_
      intro v' w2 hown' hgrow _
      obtain ⟨g', cap', rfl⟩ := ownsRow_succ hown'
      obtain ⟨hv1, hv2, hr2, hk2, hb2, ha2⟩ := collect_step hv (by decide) hrow hB.size (by omega) (by exact hxW.alloc _) hKp hSc hown' hgrow
      have hc3 := hv1.cell
      have hf3 := hv1.frozen
      refine wpListIn_plain rfl (fun K hK => ?_)
      go_simp
      refine hK _ _ ?_
      clear hK K
      refine wpListIn_nil ?_
      gi_wp2_with fail
      exact ⟨hk2.from _, ha2, ⟨_, hv2, by rw [List.flatMap_append, List.map_append, List.length_append, List.flatMap_cons, List.flatMap_nil, List.append_nil, HWS.out]; exact hr2, trivial⟩, hB.trans hb2, hKp.trans ha2⟩
    · refine wpListIn_plain rfl (fun K hK => ?_)
      go_simp
      refine hK _ _ ?_
      clear hK K
      refine wpListIn_plain rfl (fun K hK => ?_)
      go_simp
      refine hK _ _ ?_
      clear hK K
      refine wpListIn_plain rfl (fun K hK => ?_)
      go_simp
      refine (CallsIn.inRound l (by rw [HF.out]; exact callsIn_wide.2 (HW.out _ (by exact hI)))).mono ?_
      rintro e w1 ⟨rfl, hx1⟩
      have hxW : Ext W w1 := ((Ext.refl W).drew).trans hx1
      have hc1 : w1.cell? ⟨w.heap.size + 1 + 1, 0, none⟩ = some v := (Below.cell hxW.below (by exact hvl)).trans hc
      have hvl1 : w.heap.size + 1 + 1 < w1.heap.size := Nat.lt_of_lt_of_le hvl hxW.size
      have hrow1 := RowN.ext (show RowN W w.heap.size 133 8 .u64 v pre.length (pre.flatMap (fun x : Fin m => (zs.drop (8 * x.val)).take 8)) from hrow) hxW
      refine hK _ _ ?_
      clear hK K
      refine wpListIn_plain rfl (fun K hK => ?_)
      go_simp
      refine hK _ _ ?_
      clear hK K
      refine wpListIn_plain rfl (fun K hK => ?_)
      go_simp
      refine hK _ _ ?_
      clear hK K
      refine wpListIn_append_own _ rfl _ _ 100 rfl w.heap.size 133 i0 (.agg z8) 8 64 Tryz.underlying100 hi hz0 hz1 hz2 rfl (by decide) v pre.length _ (by rfl) (by exact (World.ownsRow.alloc hrow1 _)) ⟨w1.heap.size, 0, none⟩ 1 1 ([a0, a1, a2, a3, a4, a5, a6, a7].map (Value.int .u64)) (by rfl) rfl (by exact new8v w1 _ a0 a1 a2 a3 a4 a5 a6 a7) (by intro u hu; obtain ⟨y, _, rfl⟩ := List.mem_map.1 hu; rfl) (by unfold maxLen; omega) (by omega) (by have := hB.size; have := hx1.size; simp at this; simp; omega) ?_
      intro v' w2 hown' hgrow _
      obtain ⟨g', cap', rfl⟩ := ownsRow_succ hown'
      obtain ⟨hv1, hv2, hr2, hk2, hb2, ha2⟩ := collect_step hv (by decide) hrow hB.size (by omega) (by exact hxW.alloc _) hKp hSc hown' hgrow
      have hc3 := hv1.cell
      have hf3 := hv1.frozen
      refine wpListIn_plain rfl (fun K hK => ?_)
      go_simp
      refine hK _ _ ?_
      clear hK K
      refine wpListIn_nil ?_
      gi_wp2_with fail
      exact ⟨hk2.from _, ha2, ⟨_, hv2, by rw [List.flatMap_append, List.map_append, List.length_append, List.flatMap_cons, List.flatMap_nil, List.append_nil, HWS.out]; exact hr2, trivial⟩, hB.trans hb2, hKp.trans ha2⟩
  case done =>
    rintro D ys W hD rfl ⟨⟨v, hv, hrow, _⟩, hB, hK⟩ hKd
    have hc := hv.cell
    rw [flat_words zs m hl, List.length_finRange] at hrow
    gi_wp2
    refine ⟨by simp, .inl ⟨_, _, rfl, run_takeDeferred hKd, ?_⟩⟩
    exact ⟨_, results_tmp2 rfl _ _ _, v, rfl, ownsRow_putObj hrow _ hKd rfl, Ext.of (hB.trans (belowK_b (w := w) (Nat.le_refl _) W D _ _ (by omega) hKd rfl rfl))⟩
  case stop =>
    rintro D c pre W _ _ h _
    exact h.elim
end Go.Proofs.YtolengkegjipaaaGreat

