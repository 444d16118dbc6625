/- In which slot's line any word lies: the law answers true for every input, and changes nothing. Conditions: none. -/
import Derived.Test.YtljleibhncidmaaFew
import Derived.Test.YtljleibhncidmaaCfgView
namespace Go.Proofs.Ytljleibhncidmaa
open Go.ChangeShapes Go.WideShapes Go.ChangeAt Go.RowKit
set_option linter.unusedVariables false
theorem around_eq (Q s x : Int) (hs : 1 ≤ s) (h1 : s ≤ Q) : aroundAt ((Q - s) * 8) 8 s x = if 0 ≤ x ∧ x < 8 * Q ∧ Q - s ≤ x / 8 then x / 8 - (Q - s) else -1 := by
  unfold aroundAt
  by_cases h : 0 ≤ x ∧ x < 8 * Q ∧ Q - s ≤ x / 8
  · rw [if_pos h, if_pos (by omega)]; omega
  · rw [if_neg h, if_neg (by omega)]
set_option maxRecDepth 100000 in
set_option maxHeartbeats 2000000 in
theorem layoutSlots_small (t s l b : Nat) (x : Int) (w : World) (h : CfgOk t s l b) (ht : t ≤ 12) (hs : s ≤ 60) :
    Calls Try.prog 8 #[.agg #[.int .i64 t, .int .i64 s, .int .i64 l, .int .i64 b], .int .i64 x] w fun e w' => e = .returned (.bool true) ∧ Ext w w' := by
  have HO := Lib.hid (fun W => of_yes t s l b W h)
  have HF := Lib.hid (fun W => few_small t s l b W (by omega) (by omega))
  obtain ⟨hs0, hl1, hb1⟩ : 1 ≤ s ∧ l ≤ 64 ∧ b ≤ 64 := by obtain ⟨_, ⟨_, _⟩, ⟨_, _⟩, _, _⟩ := h; omega
  have HLa := Lib.hid (fun W => lasting_any t s l b W (by omega) (by omega) hl1 hb1)
  obtain ⟨Q, hQ⟩ : ∃ Q : Nat, Q = 5 + (b + 7) / 8 + t + (l + 7) / 8 * t + s := ⟨_, rfl⟩
  have hsQ : s ≤ Q := by omega
  have hLen : (NM.last t s l b).length = 8 * Q := by rw [NM.last_len, hQ]
  have hF18 : layF t s l b 18 = ((Q : Int) - s) * 8 := by
    show (5 + ((b : Int) + 7) / 8 + t + t * (((l : Int) + 7) / 8)) * 8 = _
    have e1 : ((l : Int) + 7) / 8 = (((l + 7) / 8 : Nat) : Int) := by omega
    have e2 : ((b : Int) + 7) / 8 = (((b + 7) / 8 : Nat) : Int) := by omega
    rw [e1, e2, hQ, Int.mul_comm (t : Int)]
    generalize (l + 7) / 8 = nl
    generalize (b + 7) / 8 = nb
    simp only [Int.natCast_add, Int.natCast_mul]
    generalize (nl : Int) * (t : Int) = z
    omega
  have hQb : Q ≤ 1000 := by
    have : (l + 7) / 8 * t ≤ 8 * 12 := Nat.mul_le_mul (by omega) ht
    omega
  have HS : Hid (∀ W p, LayAt W p (cellsF (layF t s l b)) → Calls Try.prog 28 #[.pointer p, .int .i64 x] W fun e w' => e = .returned (.int .i64 (aroundAt (((Q : Int) - s) * 8) 8 s x)) ∧ Ext W w') := Lib.hid (fun W p hW => by
    have ok := okayF h
    have := tSlot_any p _ (layF t s l b 18) (layF t s l b 19) (layF t s l b 20) x W hW ok.r18.a ok.dm ok.d0 ok.d1 ok.m0 (cellsF_at _ 18 (by omega)) (cellsF_at _ 19 (by omega)) (cellsF_at _ 20 (by omega))
    rw [hF18] at this
    exact this)
  rw [around_eq Q s x (by omega) (by omega)] at HS
  have HQ := Lib.hid hLen
  clear hLen hF18 hQ h
  generalize NM.last t s l b = L at *
  go_enter Try.func8, Try.ntmps8
  go_wp2_with fail
  refine (HO.out _).mono ?_
  rintro e w1 ⟨g, rfl, hg, hgl, x1⟩
  obtain ⟨c0, c1, c2, c3⟩ := (C4.new w t s l b 23).ext x1 (by simp)
  have hL := Lib.hid (show LayAt w1 (some ⟨g, 0, none⟩) (cellsF (layF t s l b)) from Or.inl ⟨g, rfl, hg⟩)
  have hxa := ((Ext.refl w).alloc _).trans x1
  have hz : w.heap.size < w1.heap.size := by have := x1.size; simp at this; omega
  clear HO hg hgl x1
  go_wp2_with fail
  refine (HF.out _).mono ?_
  rintro e w2 ⟨rfl, x2⟩
  have p2 := C4.ext ⟨c0, c1, c2, c3⟩ x2 hz
  replace hL := Lib.hid (hL.out.ext x2)
  have hxb := hxa.trans x2
  have hz2 : w.heap.size < w2.heap.size := Nat.lt_of_lt_of_le hz x2.size
  clear HF x2 hxa hz c0 c1 c2 c3
  have HP2 := Lib.hid p2
  obtain ⟨c0, c1, c2, c3⟩ := p2
  go_wp2_with fail
  refine (HLa.out _).mono ?_
  rintro e w3 ⟨v, rfl, hrow, x3⟩
  have p3 := HP2.out.ext x3 hz2
  replace hL := Lib.hid (hL.out.ext x3)
  have hxc := hxb.trans x3
  obtain ⟨A, c, hv, _⟩ := hrow.form
  rw [HQ.out] at hv
  subst hv
  clear HLa x3 hxb HP2 c0 c1 c2 c3 hrow hz2 HQ
  obtain ⟨c0, c1, c2, c3⟩ := p3
  have hq8 : (8 * (Q : Int)) / 8 = Q := by omega
  have hq9 : 8 * Q / 8 = Q := by omega
  by_cases a0 : 0 ≤ x
  · by_cases a1 : x < 8 * Q
    · by_cases a2 : (Q : Int) - s ≤ x / 8
      · have a3 : ((x / 8 - ((Q : Int) - s)) == (x / 8 - ((Q : Int) - s))) = true := by simp
        rw [if_pos ⟨a0, a1, a2⟩] at HS
        go_wp2_with fail
        refine (awake6_any _).mono ?_
        rintro e w4 ⟨rfl, x4⟩
        go_wp2_with fail
        refine (HS.out _ _ (hL.out.ext x4)).mono ?_
        rintro e w5 ⟨rfl, x5⟩
        go_wp2_with fail
        go_ret
        exact ⟨rfl, (hxc.trans x4).trans x5⟩
      · rw [if_neg (fun hh => a2 hh.2.2)] at HS
        go_wp2_with fail
        refine (awake6_any _).mono ?_
        rintro e w4 ⟨rfl, x4⟩
        go_wp2_with fail
        refine (HS.out _ _ (hL.out.ext x4)).mono ?_
        rintro e w5 ⟨rfl, x5⟩
        go_wp2_with fail
        go_ret
        exact ⟨rfl, (hxc.trans x4).trans x5⟩
    · rw [if_neg (fun hh => a1 hh.2.1)] at HS
      go_wp2_with fail
      refine (awake6_any _).mono ?_
      rintro e w4 ⟨rfl, x4⟩
      go_wp2_with fail
      refine (HS.out _ _ (hL.out.ext x4)).mono ?_
      rintro e w5 ⟨rfl, x5⟩
      go_wp2_with fail
      go_ret
      exact ⟨rfl, (hxc.trans x4).trans x5⟩
  · rw [if_neg (fun hh => a0 hh.1)] at HS
    go_wp2_with fail
    refine (awake6_any _).mono ?_
    rintro e w4 ⟨rfl, x4⟩
    go_wp2_with fail
    refine (HS.out _ _ (hL.out.ext x4)).mono ?_
    rintro e w5 ⟨rfl, x5⟩
    go_wp2_with fail
    go_ret
    exact ⟨rfl, (hxc.trans x4).trans x5⟩
theorem layoutSlots_walk (t s l b x : Int) (w : World) :
    Calls Try.prog 8 #[.agg #[.int .i64 t, .int .i64 s, .int .i64 l, .int .i64 b], .int .i64 x] w fun e w' => e = .returned (.bool true) ∧ Ext w w' := by
  rcases cfg_em t s l b with h | h
  · by_cases hsm : t ≤ 12 ∧ s ≤ 60
    · obtain ⟨⟨t0, t1⟩, ⟨s0, s1⟩, ⟨l0, l1⟩, b0, b1⟩ := id h
      obtain ⟨tn, rfl⟩ := Int.eq_ofNat_of_zero_le (show 0 ≤ t by omega)
      obtain ⟨sn, rfl⟩ := Int.eq_ofNat_of_zero_le (show 0 ≤ s by omega)
      obtain ⟨ln, rfl⟩ := Int.eq_ofNat_of_zero_le (show 0 ≤ l by omega)
      obtain ⟨bn, rfl⟩ := Int.eq_ofNat_of_zero_le (show 0 ≤ b by omega)
      exact layoutSlots_small tn sn ln bn x w h (by omega) (by omega)
    · go_enter Try.func8, Try.ntmps8
      go_wp2_with fail
      refine (of_yes t s l b _ h).mono ?_
      rintro e w1 ⟨g, rfl, hg, hgl, x1⟩
      obtain ⟨c0, c1, c2, c3⟩ := (C4.new w t s l b 23).ext x1 (by simp)
      clear hg hgl
      go_wp2_with fail
      refine (few_great t s l b _ hsm h).mono ?_
      rintro e w2 ⟨rfl, x2⟩
      go_wp2_with fail
      refine (awake6_any _).mono ?_
      rintro e w3 ⟨rfl, x3⟩
      go_wp2_with fail
      go_ret
      exact ⟨rfl, ((((Ext.refl w).alloc _).trans x1).trans x2).trans x3⟩
  · go_enter Try.func8, Try.ntmps8
    go_wp2_with fail
    refine (of_no t s l b _ h).mono ?_
    rintro e w1 ⟨rfl, x1⟩
    obtain ⟨c0, c1, c2, c3⟩ := (C4.new w t s l b 23).ext x1 (by simp)
    go_wp2_with fail
    refine (few_none t s l b _ h).mono ?_
    rintro e w2 ⟨rfl, x2⟩
    go_wp2_with fail
    refine (awake6_any _).mono ?_
    rintro e w3 ⟨rfl, x3⟩
    go_wp2_with fail
    go_ret
    exact ⟨rfl, ((((Ext.refl w).alloc _).trans x1).trans x2).trans x3⟩

namespace layoutSlots
set_option maxRecDepth 100000 in
theorem lifted (os : Os) (started : os.Started) (H : Type) (enc : TypeId × Value → H) :
    ReturnsInHanded {} Try.checked os 8 .any (Rows.layoutSlotsSpec.pre6 enc Try.prog Try.f8 Rows.layoutSlotsRow.domain false) (Rows.layoutSlotsSpec.post enc Try.prog Try.f8 false true false false) := by
  refine returnsInHanded_of_change (C := Try.checked) own started (by kernel_rfl) Try.func8
    (ChangeSpec.witness6 (enc := enc) (C := Try.checked) false ⟨#[], #[.agg #[.int .i64 0, .int .i64 0, .int .i64 0, .int .i64 0], .int .i64 0], []⟩ 8 (by kernel_rfl) (by kernel_rfl) (by kernel_rfl) (by kernel_rfl)) ?_
  intro W base args ds gs before hval0 hW hcnd _
  have hval : ∀ (j : Nat) t v, Try.f8.params[j]? = some t → args[j]? = some v → Value.okWide Try.prog W .any base t v := hval0
  have hW' := hW
  obtain ⟨p, q, hA0, hV, rfl, hfz, hnd⟩ := hW
  have hA : DataW.TrodAll enc Try.prog W 0 (fun _ => true) true Try.f8.params.toList args.toList ds p := hA0
  have hlt : ∀ x ∈ p ++ q, x.block < W.heap.size := fun x hx => hW'.lt x hx
  rw [Try.params8] at hA hval
  have hB := hA
  obtain ⟨v0, vs0, d0, ds0, p0, q0, hargs, rfl, rfl, h0, r0⟩ := trodAll_cons hB
  obtain ⟨v1, vs1, d1, ds1, p1, q1, rfl, rfl, rfl, h1, r1⟩ := trodAll_cons r0
  obtain ⟨rfl, rfl, rfl⟩ := trodAll_nil r1
  obtain rfl : args = #[v0, v1] := by cases args; simp_all
  obtain ⟨rfl, rfl⟩ := trodVars_none hV
  obtain ⟨x0t, x0s, x0l, x0b, rfl, ok0⟩ := view_cfg Try.underlying23 (by kernel_rfl) (by kernel_rfl) Try.underlying3 Try.underlying3 Try.underlying3 Try.underlying3 (hval 0 23 v0 rfl rfl) h0
  obtain ⟨a1, rfl, rfl, rfl, w1⟩ := open_int Try.underlying3 (hval 1 3 v1 rfl rfl) h1
  clear hA0 hval0
  refine (layoutSlots_walk x0t x0s x0l x0b a1 W).mono fun e W' ⟨he, hx⟩ => ?_
  subst he
  exact ⟨_, rfl, post_ext (pv := []) hW' (fun _ _ _ => (trodAll_cons_mk (shut_bool Try.underlying4 _) trodAll_mk0)) (fun sp hsp => trodAll_stays laid hx _ _ _ _ (readable_of (by kernel_rfl)) hA (fun x hx => hlt x (by first | (simp at hx ⊢; exact hx) | simp at hx)) (fun x hx => hsp x (by first | (simp at hx ⊢; exact hx) | simp at hx))) (fun _ _ => rfl) rfl hx (ok_one (by kernel_rfl) rfl (okWide_bool_mk Try.underlying4 _))⟩

theorem over : Rows.layoutSlotsRow.holds Try.pinned (OpenSpec.ofChange Rows.layoutSlotsSpec) :=
  OpenClaim.holds_of_wide 8 Try.f8 rfl rfl rfl rfl rfl rfl rfl ⟨rfl, rfl, rfl, rfl, rfl⟩ rfl rfl rfl rfl rfl (by kernel_rfl) Try.func8 (by kernel_rfl)
    (of_decide_eq_true (by kernel_rfl)) (by unfold Func.isWrapper; first | (rw [if_pos (by decide +kernel)]; kernel_rfl) | (rw [if_neg (by decide +kernel)]; exact ⟨rfl, rfl⟩))
    (fun os started H enc _ => lifted os started H enc)
end layoutSlots

theorem layoutSlots_holds : Rows.LayoutSlotsSaid := layoutSlots.over
#print axioms layoutSlots_holds
end Go.Proofs.Ytljleibhncidmaa
