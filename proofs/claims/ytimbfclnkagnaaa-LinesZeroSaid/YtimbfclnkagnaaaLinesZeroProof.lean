/- For every number of lines and every excess: so many lines of noughts are made, at most as many as may be, and more than may be are refused: the law answers true, and changes nothing. Conditions: none. -/
import Derived.Test.YtimbfclnkagnaaaLineEq
import Derived.Test.YtimbfclnkagnaaaArgs
namespace Go.Proofs.Ytimbfclnkagnaaa
open Go.ChangeShapes Go.WideShapes Go.ChangeAt Go.RowKit
set_option linter.unusedVariables false
theorem lim_zero (n : Nat) : Lim (List.replicate n 0) 1 := LM.lim_of fun z hz => by rw [(List.mem_replicate.1 hz).2]; decide
theorem lines_zero8 {w : World} {ad : Addr} {n : Nat} (hc : ∀ j, j < (List.replicate (n * 8) (0 : Int)).length → w.cell? (ad.add j) = some (.int .u64 ((List.replicate (n * 8) (0 : Int)).getD j 0))) (k : Nat) (h : k < n) : Cells8 w (ad.add (k * 8)) .u64 0 0 0 0 0 0 0 0 := by
  obtain ⟨a0, a1, a2, a3, a4, a5, a6, a7, _, _, hl, h8⟩ := line_at hc k (by rw [List.length_replicate]; omega) (lim_zero _)
  have e : ∀ j, j < 8 → [a0, a1, a2, a3, a4, a5, a6, a7].getD j 0 = 0 := fun j hj => by have := hl j hj; omega
  obtain rfl : a0 = 0 := e 0 (by decide)
  obtain rfl : a1 = 0 := e 1 (by decide)
  obtain rfl : a2 = 0 := e 2 (by decide)
  obtain rfl : a3 = 0 := e 3 (by decide)
  obtain rfl : a4 = 0 := e 4 (by decide)
  obtain rfl : a5 = 0 := e 5 (by decide)
  obtain rfl : a6 = 0 := e 6 (by decide)
  obtain rfl : a7 = 0 := e 7 (by decide)
  exact h8
set_option maxRecDepth 100000 in
set_option maxHeartbeats 1000000 in
theorem linesZero_hi (n y : Int) (w : World) (h : 300 < n) (h1 : n < 9223372036854775808) (y0 : 0 ≤ y) (y1 : y < 256) :
    Calls Try.prog 6 #[.int .i64 n, .int .u8 y] w fun e w' => e = .returned (.bool true) ∧ Ext w w' := by
  have HZ := Lib.hid (zero_any w 300 (by omega) (by omega))
  have hz : ((zeros 300 : Nat) : Int) = max 300 0 := by unfold zeros; omega
  have hz300 : zeros 300 ≤ 300 := by unfold zeros; omega
  have HRow := Lib.hid (RowN.madeLines w (zeros 300) (zeros 300) (Nat.le_refl _) (by omega))
  have heq : (((zeros 300 : Nat) : Int) == 300) = true := by rw [beq_iff_eq]; omega
  clear hz
  obtain ⟨m, hm⟩ : ∃ m : Nat, (m : Int) = 8 * (262145 + y) := ⟨(8 * (262145 + y)).toNat, by omega⟩
  have hmk := fun W => make_words m m (by omega) (by omega) W
  rw [hm] at hmk
  have hm8 : m % 8 = 0 := by omega
  have hmL : 262144 < m / 8 := by omega
  have hm1 : m ≤ 9223372036854775807 := by omega
  clear hm
  have hz2 : zeros (262144 + y) = 262144 := by unfold zeros; omega
  have HZ2 := Lib.hid (fun W => zero_any W (262144 + y) (by omega) (by omega))
  rw [hz2] at HZ2
  obtain ⟨q, hq⟩ : ∃ q : Nat, q = 262144 := ⟨_, rfl⟩
  rw [← hq] at HZ2
  have hq2 : ((q : Int) == 262144) = true := beq_iff_eq.2 (by omega)
  clear hq hz2
  generalize zeros 300 = z at *
  generalize madeCells z8 (z * 8) = M at *
  generalize madeCells z8 (q * 8) = M2 at *
  generalize madeCells #[.int .u64 0] (m * 1) = M3 at *
  go_enter Try.func6, Try.ntmps6
  go_wp2_with fail
  refine HZ.out.mono ?_
  rintro e w1 ⟨rfl, rfl⟩
  go_wp2_with fail
  go_loop [6] (fun i => ∃ k : Nat, k ≤ z ∧ i = .int .i64 k) (fun i => z - (intOf i).toNat)
  case atStart => exact ⟨0, Nat.zero_le _, rfl⟩
  case round =>
    obtain ⟨k, hk, rfl⟩ := hrel
    by_cases hlt : k < z
    · have hd : decide (k < z) = true := by simp; omega
      obtain ⟨A, c, hv, _, _, hI, hA, _⟩ := HRow.out.form (by decide)
      obtain ⟨g, rfl, _, _⟩ := hA (by omega)
      obtain ⟨ad, e1, _, hc⟩ := hI (by rw [List.length_replicate]; omega)
      have e2 : (⟨w.heap.size, 0, none⟩ : Addr) = ad := by injection hv with h1; rw [← h1] at e1; injection e1
      subst e2
      have h8 := lines_zero8 hc k hlt
      simp only [Cells8, at0] at h8
      obtain ⟨c0, c1, c2, c3, c4, c5, c6, c7⟩ := h8
      clear hc hI hA hv e1
      have heql := fun W => eq_line 0 0 0 0 0 0 0 0 0 0 0 0 0 0 0 0 W
      rw [show decide ([(0 : Int), 0, 0, 0, 0, 0, 0, 0] = [0, 0, 0, 0, 0, 0, 0, 0]) = true from rfl] at heql
      go_wp2_with fail
      go_round
      case rel => exact ⟨k + 1, by omega, by go_num⟩
      case measure => simp [intOf]; omega
    · have hd : decide (k < z) = false := by simp; omega
      go_wp2_with fail
      refine (cut_long _ m m hm1 hm8 hmL _).mono ?_
      rintro e w2 ⟨rfl, hx2⟩
      go_wp2_with fail
      refine (awake3_any _).mono ?_
      rintro e w3 ⟨rfl, hx3⟩
      go_wp2_with fail
      refine (HZ2.out _).mono ?_
      rintro e w4 ⟨rfl, rfl⟩
      go_wp2_with fail
      go_ret
      exact ⟨rfl, ((((((Ext.refl w).alloc _).alloc _).trans hx2).trans hx3).alloc _)⟩
set_option maxRecDepth 100000 in
set_option maxHeartbeats 1000000 in
theorem linesZero_mid (n y : Int) (w : World) (h : 0 ≤ n) (h1 : n ≤ 300) (y0 : 0 ≤ y) (y1 : y < 256) :
    Calls Try.prog 6 #[.int .i64 n, .int .u8 y] w fun e w' => e = .returned (.bool true) ∧ Ext w w' := by
  have HZ := Lib.hid (zero_any w n (by omega) (by omega))
  have hz : ((zeros n : Nat) : Int) = max n 0 := by unfold zeros; omega
  have hz300 : zeros n ≤ 300 := by unfold zeros; omega
  have HRow := Lib.hid (RowN.madeLines w (zeros n) (zeros n) (Nat.le_refl _) (by omega))
  have heq : (((zeros n : Nat) : Int) == n) = true := by rw [beq_iff_eq]; omega
  clear hz
  obtain ⟨m, hm⟩ : ∃ m : Nat, (m : Int) = 8 * (262145 + y) := ⟨(8 * (262145 + y)).toNat, by omega⟩
  have hmk := fun W => make_words m m (by omega) (by omega) W
  rw [hm] at hmk
  have hm8 : m % 8 = 0 := by omega
  have hmL : 262144 < m / 8 := by omega
  have hm1 : m ≤ 9223372036854775807 := by omega
  clear hm
  have hz2 : zeros (262144 + y) = 262144 := by unfold zeros; omega
  have HZ2 := Lib.hid (fun W => zero_any W (262144 + y) (by omega) (by omega))
  rw [hz2] at HZ2
  obtain ⟨q, hq⟩ : ∃ q : Nat, q = 262144 := ⟨_, rfl⟩
  rw [← hq] at HZ2
  have hq2 : ((q : Int) == 262144) = true := beq_iff_eq.2 (by omega)
  clear hq hz2
  generalize zeros n = z at *
  generalize madeCells z8 (z * 8) = M at *
  generalize madeCells z8 (q * 8) = M2 at *
  generalize madeCells #[.int .u64 0] (m * 1) = M3 at *
  go_enter Try.func6, Try.ntmps6
  go_wp2_with fail
  refine HZ.out.mono ?_
  rintro e w1 ⟨rfl, rfl⟩
  go_wp2_with fail
  go_loop [6] (fun i => ∃ k : Nat, k ≤ z ∧ i = .int .i64 k) (fun i => z - (intOf i).toNat)
  case atStart => exact ⟨0, Nat.zero_le _, rfl⟩
  case round =>
    obtain ⟨k, hk, rfl⟩ := hrel
    by_cases hlt : k < z
    · have hd : decide (k < z) = true := by simp; omega
      obtain ⟨A, c, hv, _, _, hI, hA, _⟩ := HRow.out.form (by decide)
      obtain ⟨g, rfl, _, _⟩ := hA (by omega)
      obtain ⟨ad, e1, _, hc⟩ := hI (by rw [List.length_replicate]; omega)
      have e2 : (⟨w.heap.size, 0, none⟩ : Addr) = ad := by injection hv with h1; rw [← h1] at e1; injection e1
      subst e2
      have h8 := lines_zero8 hc k hlt
      simp only [Cells8, at0] at h8
      obtain ⟨c0, c1, c2, c3, c4, c5, c6, c7⟩ := h8
      clear hc hI hA hv e1
      have heql := fun W => eq_line 0 0 0 0 0 0 0 0 0 0 0 0 0 0 0 0 W
      rw [show decide ([(0 : Int), 0, 0, 0, 0, 0, 0, 0] = [0, 0, 0, 0, 0, 0, 0, 0]) = true from rfl] at heql
      go_wp2_with fail
      go_round
      case rel => exact ⟨k + 1, by omega, by go_num⟩
      case measure => simp [intOf]; omega
    · have hd : decide (k < z) = false := by simp; omega
      go_wp2_with fail
      refine (cut_long _ m m hm1 hm8 hmL _).mono ?_
      rintro e w2 ⟨rfl, hx2⟩
      go_wp2_with fail
      refine (awake3_any _).mono ?_
      rintro e w3 ⟨rfl, hx3⟩
      go_wp2_with fail
      refine (HZ2.out _).mono ?_
      rintro e w4 ⟨rfl, rfl⟩
      go_wp2_with fail
      go_ret
      exact ⟨rfl, ((((((Ext.refl w).alloc _).alloc _).trans hx2).trans hx3).alloc _)⟩
set_option maxRecDepth 100000 in
set_option maxHeartbeats 1000000 in
theorem linesZero_lo (n y : Int) (w : World) (h : -9223372036854775808 ≤ n) (h1 : n < 0) (y0 : 0 ≤ y) (y1 : y < 256) :
    Calls Try.prog 6 #[.int .i64 n, .int .u8 y] w fun e w' => e = .returned (.bool true) ∧ Ext w w' := by
  have HZ := Lib.hid (zero_any w n (by omega) (by omega))
  have hz : ((zeros n : Nat) : Int) = max n 0 := by unfold zeros; omega
  have hz300 : zeros n ≤ 300 := by unfold zeros; omega
  have HRow := Lib.hid (RowN.madeLines w (zeros n) (zeros n) (Nat.le_refl _) (by omega))
  have heq : (((zeros n : Nat) : Int) == 0) = true := by rw [beq_iff_eq]; omega
  clear hz
  obtain ⟨m, hm⟩ : ∃ m : Nat, (m : Int) = 8 * (262145 + y) := ⟨(8 * (262145 + y)).toNat, by omega⟩
  have hmk := fun W => make_words m m (by omega) (by omega) W
  rw [hm] at hmk
  have hm8 : m % 8 = 0 := by omega
  have hmL : 262144 < m / 8 := by omega
  have hm1 : m ≤ 9223372036854775807 := by omega
  clear hm
  have hz2 : zeros (262144 + y) = 262144 := by unfold zeros; omega
  have HZ2 := Lib.hid (fun W => zero_any W (262144 + y) (by omega) (by omega))
  rw [hz2] at HZ2
  obtain ⟨q, hq⟩ : ∃ q : Nat, q = 262144 := ⟨_, rfl⟩
  rw [← hq] at HZ2
  have hq2 : ((q : Int) == 262144) = true := beq_iff_eq.2 (by omega)
  clear hq hz2
  generalize zeros n = z at *
  generalize madeCells z8 (z * 8) = M at *
  generalize madeCells z8 (q * 8) = M2 at *
  generalize madeCells #[.int .u64 0] (m * 1) = M3 at *
  go_enter Try.func6, Try.ntmps6
  go_wp2_with fail
  refine HZ.out.mono ?_
  rintro e w1 ⟨rfl, rfl⟩
  go_wp2_with fail
  go_loop [6] (fun i => ∃ k : Nat, k ≤ z ∧ i = .int .i64 k) (fun i => z - (intOf i).toNat)
  case atStart => exact ⟨0, Nat.zero_le _, rfl⟩
  case round =>
    obtain ⟨k, hk, rfl⟩ := hrel
    by_cases hlt : k < z
    · have hd : decide (k < z) = true := by simp; omega
      obtain ⟨A, c, hv, _, _, hI, hA, _⟩ := HRow.out.form (by decide)
      obtain ⟨g, rfl, _, _⟩ := hA (by omega)
      obtain ⟨ad, e1, _, hc⟩ := hI (by rw [List.length_replicate]; omega)
      have e2 : (⟨w.heap.size, 0, none⟩ : Addr) = ad := by injection hv with h1; rw [← h1] at e1; injection e1
      subst e2
      have h8 := lines_zero8 hc k hlt
      simp only [Cells8, at0] at h8
      obtain ⟨c0, c1, c2, c3, c4, c5, c6, c7⟩ := h8
      clear hc hI hA hv e1
      have heql := fun W => eq_line 0 0 0 0 0 0 0 0 0 0 0 0 0 0 0 0 W
      rw [show decide ([(0 : Int), 0, 0, 0, 0, 0, 0, 0] = [0, 0, 0, 0, 0, 0, 0, 0]) = true from rfl] at heql
      go_wp2_with fail
      go_round
      case rel => exact ⟨k + 1, by omega, by go_num⟩
      case measure => simp [intOf]; omega
    · have hd : decide (k < z) = false := by simp; omega
      go_wp2_with fail
      refine (cut_long _ m m hm1 hm8 hmL _).mono ?_
      rintro e w2 ⟨rfl, hx2⟩
      go_wp2_with fail
      refine (awake3_any _).mono ?_
      rintro e w3 ⟨rfl, hx3⟩
      go_wp2_with fail
      refine (HZ2.out _).mono ?_
      rintro e w4 ⟨rfl, rfl⟩
      go_wp2_with fail
      go_ret
      exact ⟨rfl, ((((((Ext.refl w).alloc _).alloc _).trans hx2).trans hx3).alloc _)⟩
theorem linesZero_walk (n y : Int) (w : World) (h0 : -9223372036854775808 ≤ n) (h1 : n < 9223372036854775808) (y0 : 0 ≤ y) (y1 : y < 256) :
    Calls Try.prog 6 #[.int .i64 n, .int .u8 y] w fun e w' => e = .returned (.bool true) ∧ Ext w w' := by
  by_cases g : 300 < n
  · exact linesZero_hi n y w g h1 y0 y1
  · by_cases g2 : n < 0
    · exact linesZero_lo n y w h0 g2 y0 y1
    · exact linesZero_mid n y w (by omega) (by omega) y0 y1

namespace linesZero
set_option maxRecDepth 100000 in
theorem lifted (os : Os) (started : os.Started) (H : Type) (enc : TypeId × Value → H) :
    ReturnsInHanded {} Try.checked os 6 .any (Rows.linesZeroSpec.pre6 enc Try.prog Try.f6 Rows.linesZeroRow.domain false) (Rows.linesZeroSpec.post enc Try.prog Try.f6 false true false false) := by
  refine returnsInHanded_of_change (C := Try.checked) own started (by kernel_rfl) Try.func6
    (ChangeSpec.witness6 (enc := enc) (C := Try.checked) false ⟨#[], #[.int .i64 0, .int .u8 0], []⟩ 8 (by kernel_rfl) (by kernel_rfl) (by kernel_rfl) (by kernel_rfl)) ?_
  intro W base args ds gs before hval0 hW hcnd _
  have hval : ∀ (j : Nat) t v, Try.f6.params[j]? = some t → args[j]? = some v → Value.okWide Try.prog W .any base t v := hval0
  have hW' := hW
  obtain ⟨p, q, hA0, hV, rfl, hfz, hnd⟩ := hW
  have hA : DataW.TrodAll enc Try.prog W 0 (fun _ => true) true Try.f6.params.toList args.toList ds p := hA0
  have hlt : ∀ x ∈ p ++ q, x.block < W.heap.size := fun x hx => hW'.lt x hx
  rw [Try.params6] at hA hval
  have hB := hA
  obtain ⟨v0, vs0, d0, ds0, p0, q0, hargs, rfl, rfl, h0, r0⟩ := trodAll_cons hB
  obtain ⟨v1, vs1, d1, ds1, p1, q1, rfl, rfl, rfl, h1, r1⟩ := trodAll_cons r0
  obtain ⟨rfl, rfl, rfl⟩ := trodAll_nil r1
  obtain rfl : args = #[v0, v1] := by cases args; simp_all
  obtain ⟨rfl, rfl⟩ := trodVars_none hV
  obtain ⟨a0, rfl, rfl, rfl, w0⟩ := open_int Try.underlying3 (hval 0 3 v0 rfl rfl) h0
  obtain ⟨a1, rfl, rfl, rfl, w1⟩ := open_int Try.underlying5 (hval 1 5 v1 rfl rfl) h1
  clear hA0 hval0
  refine (linesZero_walk a0 a1 W (wf_i64 w0).1 (wf_i64 w0).2 (wf_u8 w1).1 (wf_u8 w1).2).mono fun e W' ⟨he, hx⟩ => ?_
  subst he
  exact ⟨_, rfl, post_ext (pv := []) hW' (fun _ _ _ => (trodAll_cons_mk (shut_bool Try.underlying4 _) trodAll_mk0)) (fun sp hsp => trodAll_stays laid hx _ _ _ _ (readable_of (by kernel_rfl)) hA (fun x hx => hlt x (by first | (simp at hx ⊢; exact hx) | simp at hx)) (fun x hx => hsp x (by first | (simp at hx ⊢; exact hx) | simp at hx))) (fun _ _ => rfl) rfl hx (ok_one (by kernel_rfl) rfl (okWide_bool_mk Try.underlying4 _))⟩

theorem over : Rows.linesZeroRow.holds Try.pinned (OpenSpec.ofChange Rows.linesZeroSpec) :=
  OpenClaim.holds_of_wide 6 Try.f6 rfl rfl rfl rfl rfl rfl rfl ⟨rfl, rfl, rfl, rfl, rfl⟩ rfl rfl rfl rfl rfl (by kernel_rfl) Try.func6 (by kernel_rfl)
    (of_decide_eq_true (by kernel_rfl)) (by unfold Func.isWrapper; first | (rw [if_pos (by decide +kernel)]; kernel_rfl) | (rw [if_neg (by decide +kernel)]; exact ⟨rfl, rfl⟩))
    (fun os started H enc _ => lifted os started H enc)
end linesZero

theorem linesZero_holds : Rows.LinesZeroSaid := linesZero.over
#print axioms linesZero_holds
end Go.Proofs.Ytimbfclnkagnaaa
