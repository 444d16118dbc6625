/- A config's line of which one bit was turned is no config's, and its copy still is: the law answers true for every input, and changes nothing. Conditions: none. -/
import Derived.Test.YtljleibhncidmaaSuperTurns
namespace Go.Proofs.Ytljleibhncidmaa
open Go.ChangeShapes Go.WideShapes Go.ChangeAt Go.RowKit
set_option linter.unusedVariables false
theorem u64_turn (b j : Nat) (hb : b < 18446744073709551616) (hj : j < 64) : U64 ((b ^^^ 2 ^ j : Nat) : Int) := by
  have := SM.turn_lt b j hb hj
  unfold U64
  omega
theorem hx_turn (b : Nat) (y bit : Int) (hy : (b : Int) = y) (hb : b < 18446744073709551616) (h0 : 0 ≤ bit) : bits .xor .u64 y (IntKind.u64.wrap (2 ^ (bit % 64).toNat)) = ((b ^^^ 2 ^ (bit % 64).toNat : Nat) : Int) := by
  rw [← hy, IntKind.wrap_u64, SM.turn_of b _ hb (by omega)]
set_option maxHeartbeats 1000000 in
theorem superTurns_walk (t s l b word bit : Int) (w : World) (hw0 : 0 ≤ word) (hw1 : word < 256) (hb0 : 0 ≤ bit) (hb1 : bit < 256) :
    Calls Try.prog 5 #[.agg #[.int .i64 t, .int .i64 s, .int .i64 l, .int .i64 b], .int .u8 word, .int .u8 bit] w fun e w' => e = .returned (.bool true) ∧ Ext w w' := by
  rcases cfg_em t s l b with h | h
  · obtain ⟨⟨t0, t1⟩, ⟨s0, s1⟩, ⟨l0, l1⟩, b0, b1⟩ := cfg_pos h
    obtain ⟨tn, rfl⟩ := Int.eq_ofNat_of_zero_le t0
    obtain ⟨sn, rfl⟩ := Int.eq_ofNat_of_zero_le s0
    obtain ⟨ln, rfl⟩ := Int.eq_ofNat_of_zero_le l0
    obtain ⟨bn, rfl⟩ := Int.eq_ofNat_of_zero_le b0
    have hl := sum7_lim 7739836655157129782 tn sn ln bn 1 0
    obtain ⟨S, hS⟩ : ∃ S : Nat, (S : Int) = sum7 7739836655157129782 tn sn ln bn 1 0 := ⟨(sum7 7739836655157129782 tn sn ln bn 1 0).toNat, by omega⟩
    have HL := Lib.hid (fun W => line_yes _ _ _ _ W h)
    unfold lineOf at HL
    rw [← hS] at HL
    have hRl : Reads (.agg #[.int .u64 7739836655157129782, .int .u64 tn, .int .u64 sn, .int .u64 ln, .int .u64 bn, .int .u64 1, .int .u64 0, .int .u64 S]) tn sn ln bn 0 := fun W => by rw [hS]; exact read_yes _ _ _ _ W h
    rw [← hS] at hl
    have hj : (bit % 64).toNat < 64 := by omega
    have um : U64 7739836655157129782 := ⟨by omega, by omega⟩
    have ut : U64 tn := ⟨by omega, by omega⟩
    have us : U64 sn := ⟨by omega, by omega⟩
    have ul : U64 ln := ⟨by omega, by omega⟩
    have ub : U64 bn := ⟨by omega, by omega⟩
    have hcase : word % 8 = 0 ∨ word % 8 = 1 ∨ word % 8 = 2 ∨ word % 8 = 3 ∨ word % 8 = 4 ∨ word % 8 = 5 ∨ word % 8 = 6 ∨ word % 8 = 7 := by omega
    rcases hcase with hk | hk | hk | hk | hk | hk | hk | hk
    · exact superTurns_0 tn sn ln bn 7739836655157129782 tn sn ln bn 1 0 S _ word bit w hw0 hw1 hb0 hb1 hk ⟨by omega, by omega⟩ HL (Lib.hid (hx_turn 7739836655157129782 _ bit rfl (by omega) hb0)) (fun W => read_no _ _ _ _ _ _ _ _ W (u64_turn 7739836655157129782 _ (by omega) hj) ut us ul ub (not0 7739836655157129782 tn sn ln bn 1 0 S _ rfl)) hRl
    · exact superTurns_1 tn sn ln bn 7739836655157129782 tn sn ln bn 1 0 S _ word bit w hw0 hw1 hb0 hb1 hk ⟨by omega, by omega⟩ HL (Lib.hid (hx_turn tn _ bit rfl (by omega) hb0)) (fun W => read_no _ _ _ _ _ _ _ _ W um (u64_turn tn _ (by omega) hj) us ul ub (by rw [hS]; exact not1 7739836655157129782 tn sn ln bn 1 0 _ hj)) hRl
    · exact superTurns_2 tn sn ln bn 7739836655157129782 tn sn ln bn 1 0 S _ word bit w hw0 hw1 hb0 hb1 hk ⟨by omega, by omega⟩ HL (Lib.hid (hx_turn sn _ bit rfl (by omega) hb0)) (fun W => read_no _ _ _ _ _ _ _ _ W um ut (u64_turn sn _ (by omega) hj) ul ub (by rw [hS]; exact not2 7739836655157129782 tn sn ln bn 1 0 _ hj)) hRl
    · exact superTurns_3 tn sn ln bn 7739836655157129782 tn sn ln bn 1 0 S _ word bit w hw0 hw1 hb0 hb1 hk ⟨by omega, by omega⟩ HL (Lib.hid (hx_turn ln _ bit rfl (by omega) hb0)) (fun W => read_no _ _ _ _ _ _ _ _ W um ut us (u64_turn ln _ (by omega) hj) ub (by rw [hS]; exact not3 7739836655157129782 tn sn ln bn 1 0 _ hj)) hRl
    · exact superTurns_4 tn sn ln bn 7739836655157129782 tn sn ln bn 1 0 S _ word bit w hw0 hw1 hb0 hb1 hk ⟨by omega, by omega⟩ HL (Lib.hid (hx_turn bn _ bit rfl (by omega) hb0)) (fun W => read_no _ _ _ _ _ _ _ _ W um ut us ul (u64_turn bn _ (by omega) hj) (by rw [hS]; exact not4 7739836655157129782 tn sn ln bn 1 0 _ hj)) hRl
    · exact superTurns_5 tn sn ln bn 7739836655157129782 tn sn ln bn 1 0 S _ word bit w hw0 hw1 hb0 hb1 hk ⟨by omega, by omega⟩ HL (Lib.hid (hx_turn 1 _ bit rfl (by omega) hb0)) (fun W => read_no _ _ _ _ _ _ _ _ W um ut us ul ub (not5 7739836655157129782 tn sn ln bn 0 S _)) hRl
    · exact superTurns_6 tn sn ln bn 7739836655157129782 tn sn ln bn 1 0 S _ word bit w hw0 hw1 hb0 hb1 hk ⟨by omega, by omega⟩ HL (Lib.hid (hx_turn 0 _ bit rfl (by omega) hb0)) (fun W => read_no _ _ _ _ _ _ _ _ W um ut us ul ub (not6 7739836655157129782 tn sn ln bn 1 S _)) hRl
    · exact superTurns_7 tn sn ln bn 7739836655157129782 tn sn ln bn 1 0 S _ word bit w hw0 hw1 hb0 hb1 hk ⟨by omega, by omega⟩ HL (Lib.hid (hx_turn S _ bit rfl (by omega) hb0)) (fun W => read_no _ _ _ _ _ _ _ _ W um ut us ul ub (not7 7739836655157129782 tn sn ln bn 1 0 S _ hS)) hRl
  · go_enter Try.func5, Try.ntmps5
    go_wp2_with fail
    refine (line_no _ _ _ _ _ h).mono ?_
    rintro r w1 ⟨rfl, hx⟩
    go_wp2_with fail
    refine (awake5_any _).mono ?_
    rintro r w2 ⟨rfl, hx2⟩
    go_wp2_with fail
    go_ret
    exact ⟨rfl, ((((Ext.refl w).alloc _).trans hx).alloc _).trans hx2⟩

namespace superTurns
set_option maxRecDepth 100000 in
theorem lifted (os : Os) (started : os.Started) (H : Type) (enc : TypeId × Value → H) :
    ReturnsInHanded {} Try.checked os 5 .any (Rows.superTurnsSpec.pre6 enc Try.prog Try.f5 Rows.superTurnsRow.domain false) (Rows.superTurnsSpec.post enc Try.prog Try.f5 false true false false) := by
  refine returnsInHanded_of_change (C := Try.checked) own started (by kernel_rfl) Try.func5
    (ChangeSpec.witness6 (enc := enc) (C := Try.checked) false ⟨#[], #[.agg #[.int .i64 0, .int .i64 0, .int .i64 0, .int .i64 0], .int .u8 0, .int .u8 0], []⟩ 8 (by kernel_rfl) (by kernel_rfl) (by kernel_rfl) (by kernel_rfl)) ?_
  intro W base args ds gs before hval0 hW hcnd _
  have hval : ∀ (j : Nat) t v, Try.f5.params[j]? = some t → args[j]? = some v → Value.okWide Try.prog W .any base t v := hval0
  have hW' := hW
  obtain ⟨p, q, hA0, hV, rfl, hfz, hnd⟩ := hW
  have hA : DataW.TrodAll enc Try.prog W 0 (fun _ => true) true Try.f5.params.toList args.toList ds p := hA0
  have hlt : ∀ x ∈ p ++ q, x.block < W.heap.size := fun x hx => hW'.lt x hx
  rw [Try.params5] at hA hval
  have hB := hA
  obtain ⟨v0, vs0, d0, ds0, p0, q0, hargs, rfl, rfl, h0, r0⟩ := trodAll_cons hB
  obtain ⟨v1, vs1, d1, ds1, p1, q1, rfl, rfl, rfl, h1, r1⟩ := trodAll_cons r0
  obtain ⟨v2, vs2, d2, ds2, p2, q2, rfl, rfl, rfl, h2, r2⟩ := trodAll_cons r1
  obtain ⟨rfl, rfl, rfl⟩ := trodAll_nil r2
  obtain rfl : args = #[v0, v1, v2] := by cases args; simp_all
  obtain ⟨rfl, rfl⟩ := trodVars_none hV
  obtain ⟨x0t, x0s, x0l, x0b, rfl, ok0⟩ := view_cfg Try.underlying23 (by kernel_rfl) (by kernel_rfl) Try.underlying3 Try.underlying3 Try.underlying3 Try.underlying3 (hval 0 23 v0 rfl rfl) h0
  obtain ⟨a1, rfl, rfl, rfl, w1⟩ := open_int Try.underlying5 (hval 1 5 v1 rfl rfl) h1
  obtain ⟨a2, rfl, rfl, rfl, w2⟩ := open_int Try.underlying5 (hval 2 5 v2 rfl rfl) h2
  clear hA0 hval0
  refine (superTurns_walk x0t x0s x0l x0b a1 a2 W (wf_u8 w1).1 (wf_u8 w1).2 (wf_u8 w2).1 (wf_u8 w2).2).mono fun e W' ⟨he, hx⟩ => ?_
  subst he
  exact ⟨_, rfl, post_ext (pv := []) hW' (fun _ _ _ => (trodAll_cons_mk (shut_bool Try.underlying4 _) trodAll_mk0)) (fun sp hsp => trodAll_stays laid hx _ _ _ _ (readable_of (by kernel_rfl)) hA (fun x hx => hlt x (by first | (simp at hx ⊢; exact hx) | simp at hx)) (fun x hx => hsp x (by first | (simp at hx ⊢; exact hx) | simp at hx))) (fun _ _ => rfl) rfl hx (ok_one (by kernel_rfl) rfl (okWide_bool_mk Try.underlying4 _))⟩

theorem over : Rows.superTurnsRow.holds Try.pinned (OpenSpec.ofChange Rows.superTurnsSpec) :=
  OpenClaim.holds_of_wide 5 Try.f5 rfl rfl rfl rfl rfl rfl rfl ⟨rfl, rfl, rfl, rfl, rfl⟩ rfl rfl rfl rfl rfl (by kernel_rfl) Try.func5 (by kernel_rfl)
    (of_decide_eq_true (by kernel_rfl)) (by unfold Func.isWrapper; first | (rw [if_pos (by decide +kernel)]; kernel_rfl) | (rw [if_neg (by decide +kernel)]; exact ⟨rfl, rfl⟩))
    (fun os started H enc _ => lifted os started H enc)
end superTurns

theorem superTurns_holds : Rows.SuperTurnsSaid := superTurns.over
#print axioms superTurns_holds
end Go.Proofs.Ytljleibhncidmaa
