/- For all two texts of up to 300 bytes the sum of both is that which goes on from the state behind the first: the law answers true, and changes nothing. Conditions: none. -/
import Derived.Test.YtkeppicoobeoeaaSumRef2
namespace Go.Proofs.Ytkeppicoobeoeaa
open Go.ChangeShapes Go.WideShapes Go.ChangeAt Go.RowKit
set_option linter.unusedVariables false
namespace SM
theorem bytesN_append (s : Nat) (l m : List Nat) : bytesN s (l ++ m) = bytesN (bytesN s l) m := by unfold bytesN; rw [List.foldl_append]
theorem cat_take (xs ys : List Int) (k : Nat) (h : k < ys.length) : xs ++ ys.take (k + 1) = (xs ++ ys.take k) ++ [ys.getD k 0] := by
  rw [List.take_succ_eq_append_getElem h, List.append_assoc]
  simp [List.getD_eq_getElem?_getD, h]
theorem lim_cat (xs ys : List Int) (m : Int) (hx : Lim xs m) (hy : Lim ys m) : Lim (xs ++ ys) m := by
  intro j hj
  rw [List.length_append] at hj
  by_cases h : j < xs.length
  · rw [List.getD_eq_getElem?_getD, List.getElem?_append_left h, ← List.getD_eq_getElem?_getD]
    exact hx j h
  · rw [List.getD_eq_getElem?_getD, List.getElem?_append_right (by omega), ← List.getD_eq_getElem?_getD]
    exact hy _ (by omega)
end SM
set_option maxRecDepth 100000 in
set_option maxHeartbeats 1000000 in
theorem sumParts_walk (A B : Option Addr) (c d : Nat) (xs ys : List Int) (w : World) (hc : xs.length ≤ c) (hcm : c ≤ 9223372036854775807) (hx : xs.length ≤ 9223372036854775807) (hy : ys.length ≤ 9223372036854775807) (lx : Lim xs 256) (ly : Lim ys 256) (hA : Ints w .u8 A xs) (hB : Ints w .u8 B ys) :
    Calls Try.prog 10 #[.slice A xs.length c, .slice B ys.length d] w fun e w' => e = .returned (.bool true) ∧ Ext w w' := by
  by_cases h1 : 300 < xs.length
  · go_enter Try.func10, Try.ntmps10
    go_wp2_with fail
    refine (awake2_any _).mono ?_
    rintro e w1 ⟨rfl, hx1⟩
    go_wp2_with fail
    go_ret
    exact ⟨rfl, hx1⟩
  · by_cases h2 : 300 < ys.length
    · go_enter Try.func10, Try.ntmps10
      go_wp2_with fail
      refine (awake2_any _).mono ?_
      rintro e w1 ⟨rfl, hx1⟩
      go_wp2_with fail
      go_ret
      exact ⟨rfl, hx1⟩
    · go_enter Try.func10, Try.ntmps10
      go_wp2_with fail
      refine (begin_any _).mono ?_
      rintro e w' ⟨rfl, rfl⟩
      go_wp2_with fail
      go_loop [5, 6] (fun t i => ∃ k : Nat, k ≤ xs.length ∧ i = .int .i64 k ∧ t = .int .u32 (SM.bytesN 4294967295 ((xs.map Int.toNat).take k) : Nat)) (fun _ i => xs.length - (intOf i).toNat)
      case atStart => exact ⟨0, Nat.zero_le _, rfl, rfl⟩
      case round =>
        obtain ⟨k, hk, rfl, rfl⟩ := hrel
        have hs := SM.bytes_lt ((xs.map Int.toNat).take k) 4294967295 (by omega)
        by_cases hlt : k < xs.length
        · obtain ⟨ad, rfl, hb, hcl⟩ := hA (by omega)
          have hcell := hcl k hlt
          have hzk := lx k hlt
          clear hcl
          obtain ⟨b, hbe⟩ := Int.eq_ofNat_of_zero_le hzk.1
          have H := Lib.hid (SM.bytes_take xs k hlt)
          rw [hbe] at hcell hzk H
          clear hbe
          go_wp2_with fail
          refine (byte_any _ _ hs (by omega) _).mono ?_
          rintro e w' ⟨rfl, rfl⟩
          go_wp2_with fail
          go_round
          case rel => exact ⟨k + 1, by omega, by go_num, by rw [H.out]; rfl⟩
          case measure => simp [intOf]; omega
        · have e : (xs.map Int.toNat).take k = xs.map Int.toNat := List.take_of_length_le (by simp; omega)
          rw [e] at hs ⊢
          clear e
          obtain ⟨X, hX⟩ : ∃ X, X = SM.bytesN 4294967295 (xs.map Int.toNat) := ⟨_, rfl⟩
          have HX := Lib.hid hX
          have HS := Lib.hid (show SM.sumOf xs = 4294967295 - X from by rw [hX]; rfl)
          rw [← hX] at hs ⊢
          clear hX
          go_wp2_with fail
          refine (end_any _ hs _).mono ?_
          rintro e w' ⟨rfl, rfl⟩
          go_wp2_with fail
          refine (bytes_any A c xs _ hx lx hA).mono ?_
          rintro e w' ⟨rfl, rfl⟩
          rw [HS.out]
          go_wp2_with fail
          go_loopw [5, 7, 8] (fun t v i wr => ∃ k : Nat, k ≤ ys.length ∧ i = .int .i64 k ∧ t = .int .u32 (SM.bytesN X ((ys.map Int.toNat).take k) : Nat) ∧ Ext w wr ∧ ((k = 0 ∧ v = .slice A xs.length xs.length) ∨ Row wr w.heap.size 5 .u8 v (xs ++ ys.take k))) (fun _ _ i _ => ys.length - (intOf i).toNat)
          case atStart => exact ⟨0, Nat.zero_le _, rfl, rfl, Ext.refl _, .inl ⟨rfl, rfl⟩⟩
          case round =>
            obtain ⟨m, hm, rfl, rfl, hext, hv⟩ := hrel
            have hs2 := SM.bytes_lt ((ys.map Int.toNat).take m) X hs
            by_cases hltm : m < ys.length
            · obtain ⟨ad, rfl, hb, hcl⟩ := (hB.ext hext) (by omega)
              have hcell := hcl m hltm
              have hzk := ly m hltm
              clear hcl
              have HT := Lib.hid (SM.cat_take xs ys m hltm)
              have HN := Lib.hid (SM.nats_take ys m hltm)
              obtain ⟨b, hbe⟩ := Int.eq_ofNat_of_zero_le hzk.1
              rw [hbe] at hcell hzk HT HN
              clear hbe
              obtain ⟨Y, hY⟩ : ∃ Y, Y = SM.bytesN X ((ys.map Int.toNat).take m) := ⟨_, rfl⟩
              rw [← hY] at hs2 ⊢
              have HY := Lib.hid hY
              clear hY
              rcases hv with ⟨hm0, rfl⟩ | hrow
              · have HM := Lib.hid hm0
                clear hm0
                go_wp2_with fail
                refine (byte_any _ _ hs2 (by omega) _).mono ?_
                rintro e w' ⟨rfl, rfl⟩
                go_wp2_with ((at_builtin; refine Hid.out ?_))
                refine Lib.hid ?_
                refine wpList_pushFull rfl _ _ 40 rfl 5 .u8 1 byte_info (by omega) Try.underlying40 w wr A xs (b : Int) (by rfl) (hA.ext hext) hext (by rfl) (by omega) ?_
                intro v' w' hrow' hext'
                go_wp2_with fail
                go_roundw
                case rel =>
                  refine ⟨m + 1, by omega, by go_num, ?_, hext', .inr ?_⟩
                  · rw [HN.out, SM.bytesN_append, ← HY.out]; rfl
                  · rw [HT.out, HM.out]; simpa using hrow'
                case measure => simp [intOf]; omega
              · go_wp2_with fail
                refine (byte_any _ _ hs2 (by omega) _).mono ?_
                rintro e w' ⟨rfl, rfl⟩
                go_wp2_with ((at_builtin; refine Hid.out ?_))
                refine Lib.hid ?_
                refine wpList_push rfl _ _ 40 rfl 5 .u8 1 byte_info (by omega) Try.underlying40 w wr _ (xs ++ ys.take m) (b : Int) (by rfl) hrow hext (by rfl) (by rw [List.length_append, List.length_take]; omega) ?_
                intro v' w' hrow' hext'
                go_wp2_with fail
                go_roundw
                case rel =>
                  refine ⟨m + 1, by omega, by go_num, ?_, hext', .inr ?_⟩
                  · rw [HN.out, SM.bytesN_append, ← HY.out]; rfl
                  · rw [HT.out]; exact hrow'
                case measure => simp [intOf]; omega
            · have e : (ys.map Int.toNat).take m = ys.map Int.toNat := List.take_of_length_le (by simp; omega)
              rw [e] at hs2 ⊢
              clear e
              have e : ys.take m = ys := List.take_of_length_le (by omega)
              rw [e] at hv
              clear e
              obtain ⟨A2, c2, rfl, hI⟩ : ∃ A2 c2, u7 = .slice A2 (xs.length + ys.length) c2 ∧ Ints wr .u8 A2 (xs ++ ys) := by
                rcases hv with ⟨h0, rfl⟩ | hrow
                · have : ys = [] := List.eq_nil_of_length_eq_zero (by omega)
                  subst this
                  exact ⟨A, xs.length, by simp, by simpa using hA.ext hext⟩
                · obtain ⟨A2, c2, e, hI, _⟩ := hrow.form
                  exact ⟨A2, c2, by rw [e, List.length_append], hI⟩
              clear hv
              have HF := Lib.hid (show SM.sumOf (xs ++ ys) = 4294967295 - SM.bytesN X (ys.map Int.toNat) from by unfold SM.sumOf; rw [List.map_append, SM.bytesN_append, ← HX.out])
              go_wp2_with fail
              refine (awake2_any _).mono ?_
              rintro e w1 ⟨rfl, hx1⟩
              go_wp2_with fail
              refine (end_any _ hs2 _).mono ?_
              rintro e w' ⟨rfl, rfl⟩
              go_wp2_with fail
              refine (bytes_n _ A2 c2 (xs ++ ys) _ (by rw [List.length_append]) (by rw [List.length_append]; omega) (SM.lim_cat xs ys 256 lx ly) (hI.ext hx1)).mono ?_
              rintro e w' ⟨rfl, rfl⟩
              rw [HF.out]
              go_wp2_with fail
              go_ret
              exact ⟨rfl, hext.trans hx1⟩

namespace sumParts
set_option maxRecDepth 100000 in
theorem lifted (os : Os) (started : os.Started) (H : Type) (enc : TypeId × Value → H) :
    ReturnsInHanded {} Try.checked os 10 .any (Rows.sumPartsSpec.pre6 enc Try.prog Try.f10 Rows.sumPartsRow.domain false) (Rows.sumPartsSpec.post enc Try.prog Try.f10 false true false false) := by
  refine returnsInHanded_of_change (C := Try.checked) own started (by kernel_rfl) Try.func10
    (ChangeSpec.witness6 (enc := enc) (C := Try.checked) false ⟨#[], #[.slice none 0 0, .slice none 0 0], []⟩ 8 (by kernel_rfl) (by kernel_rfl) (by kernel_rfl) (by kernel_rfl)) ?_
  intro W base args ds gs before hval0 hW hcnd _
  have hval : ∀ (j : Nat) t v, Try.f10.params[j]? = some t → args[j]? = some v → Value.okWide Try.prog W .any base t v := hval0
  have hW' := hW
  obtain ⟨p, q, hA0, hV, rfl, hfz, hnd⟩ := hW
  have hA : DataW.TrodAll enc Try.prog W 0 (fun _ => true) true Try.f10.params.toList args.toList ds p := hA0
  have hlt : ∀ x ∈ p ++ q, x.block < W.heap.size := fun x hx => hW'.lt x hx
  rw [Try.params10] at hA hval
  have hB := hA
  obtain ⟨v0, vs0, d0, ds0, p0, q0, hargs, rfl, rfl, h0, r0⟩ := trodAll_cons hB
  obtain ⟨v1, vs1, d1, ds1, p1, q1, rfl, rfl, rfl, h1, r1⟩ := trodAll_cons r0
  obtain ⟨rfl, rfl, rfl⟩ := trodAll_nil r1
  obtain rfl : args = #[v0, v1] := by cases args; simp_all
  obtain ⟨rfl, rfl⟩ := trodVars_none hV
  obtain ⟨A0, c0, z0, rfl, lc0, mc0, I0, w0⟩ := view_ints Try.underlying40 Try.underlying5 (by kernel_rfl) (hval 0 40 v0 rfl rfl) h0
  obtain ⟨A1, c1, z1, rfl, lc1, mc1, I1, w1⟩ := view_ints Try.underlying40 Try.underlying5 (by kernel_rfl) (hval 1 40 v1 rfl rfl) h1
  clear hA0 hval0
  refine (sumParts_walk A0 A1 c0 c1 z0 z1 W lc0 (by unfold maxLen at *; omega) (by unfold maxLen at *; omega) (by unfold maxLen at *; omega) (lim_u8 w0) (lim_u8 w1) I0 I1).mono fun e W' ⟨he, hx⟩ => ?_
  subst he
  exact ⟨_, rfl, post_ext (pv := []) hW' (fun _ _ _ => (trodAll_cons_mk (shut_bool Try.underlying4 _) trodAll_mk0)) (fun sp hsp => trodAll_stays laid hx _ _ _ _ (readable_of (by kernel_rfl)) hA (fun x hx => hlt x (by simp at hx ⊢; exact hx)) (fun x hx => hsp x (by simp at hx ⊢; exact hx))) (fun _ _ => rfl) rfl hx (ok_one (by kernel_rfl) rfl (okWide_bool_mk Try.underlying4 _))⟩

theorem over : Rows.sumPartsRow.holds Try.pinned (OpenSpec.ofChange Rows.sumPartsSpec) :=
  OpenClaim.holds_of_wide 10 Try.f10 rfl rfl rfl rfl rfl rfl rfl ⟨rfl, rfl, rfl, rfl, rfl⟩ rfl rfl rfl rfl rfl (by kernel_rfl) Try.func10 (by kernel_rfl)
    (of_decide_eq_true (by kernel_rfl)) (by unfold Func.isWrapper; first | (rw [if_pos (by decide +kernel)]; kernel_rfl) | (rw [if_neg (by decide +kernel)]; exact ⟨rfl, rfl⟩))
    (fun os started H enc _ => lifted os started H enc)
end sumParts

theorem sumParts_holds : Rows.SumPartsSaid := sumParts.over
#print axioms sumParts_holds
end Go.Proofs.Ytkeppicoobeoeaa
