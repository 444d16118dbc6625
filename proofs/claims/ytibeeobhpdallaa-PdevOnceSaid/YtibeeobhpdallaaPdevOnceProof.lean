/- What is kept of a line is what was seen of it once, all of it at one time: the law answers true for every input, and changes nothing. Conditions: none. -/
import Derived.Test.YtibeeobhpdallaaOnceYes
namespace Go.Proofs.Ytibeeobhpdallaa
open Go.ChangeShapes Go.WideShapes Go.ChangeAt Go.RowKit
set_option linter.unusedVariables false
set_option maxRecDepth 100000 in
set_option maxHeartbeats 1000000 in
theorem once_err (w : World) (A A1 : Option Addr) (N c n1 c1 : Nat) (k : Int) (hk : k ≠ 0) (HO' : Calls Try.prog 8 #[.slice A N c, .int .i64 3] w (DevNone w k)) :
    Calls Try.prog 5 #[.slice A N c, .slice A1 n1 c1] w (fun e w' => e = .returned (.bool true) ∧ Ext w w') := by
  have HO := Lib.hid HO'
  have HA := Lib.hid (fun W => awake4_of W)
  clear HO'
  have t0 : decide (k = 0) = false := by simp [hk]
  go_enter Try.func5, Try.ntmps5
  go_wp2_with fail
  refine HO.out.mono ?_
  rintro e w1 ⟨rfl, x1⟩
  go_wp2_with fail
  refine (HA.out _).mono ?_
  rintro e w2 ⟨rfl, x2⟩
  go_wp2_with fail
  go_ret
  exact ⟨rfl, x1.trans x2⟩
set_option maxRecDepth 100000 in
set_option maxHeartbeats 1000000 in
theorem once_out (w : World) (A A1 : Option Addr) (N c n1 c1 : Nat) (s : DSt) (hN : N ≤ 9223372036854775807) (hn1 : n1 ≤ 9223372036854775807) (hb : 60 < N ∨ 60 < n1) (HO' : Calls Try.prog 8 #[.slice A N c, .int .i64 3] w (DevNew w s)) :
    Calls Try.prog 5 #[.slice A N c, .slice A1 n1 c1] w (fun e w' => e = .returned (.bool true) ∧ Ext w w') := by
  have HO := Lib.hid HO'
  have HA := Lib.hid (fun W => awake4_of W)
  clear HO'
  by_cases b1 : 60 < N
  · have t1 : decide ((60 : Int) < (N : Int)) = true := by simp; omega
    clear hb
    go_enter Try.func5, Try.ntmps5
    go_wp2_with fail
    refine HO.out.mono ?_
    rintro e w1 ⟨D, rfl, _, x1⟩
    go_wp2_with fail
    refine (HA.out _).mono ?_
    rintro e w2 ⟨rfl, x2⟩
    go_wp2_with fail
    go_ret
    exact ⟨rfl, x1.trans x2⟩
  · have t1 : decide ((60 : Int) < (N : Int)) = false := by simp; omega
    have t2 : decide ((60 : Int) < (n1 : Int)) = true := by simp; omega
    clear hb
    go_enter Try.func5, Try.ntmps5
    go_wp2_with fail
    refine HO.out.mono ?_
    rintro e w1 ⟨D, rfl, _, x1⟩
    go_wp2_with fail
    refine (HA.out _).mono ?_
    rintro e w2 ⟨rfl, x2⟩
    go_wp2_with fail
    go_ret
    exact ⟨rfl, x1.trans x2⟩
theorem pdevOnce_walk (w : World) (A A1 : Option Addr) (c n1 c1 : Nat) (zs : List Int) (ys : List Act5) (hcap : zs.length ≤ c) (hcm : c ≤ maxLen) (hz : Lim zs 18446744073709551616) (hA : Ints w .u64 A zs)
    (hy : ys.length = n1) (hc1 : n1 ≤ c1) (hcm1 : c1 ≤ maxLen) (hY : Acts w A1 ys) :
    Calls Try.prog 5 #[.slice A zs.length c, .slice A1 n1 c1] w (fun e w' => e = .returned (.bool true) ∧ Ext w w') := by
  unfold maxLen at hcm hcm1
  by_cases h8 : zs.length % 8 = 0
  · by_cases h0 : zs.length = 0
    · rw [h0]
      exact once_err w A A1 0 c n1 c1 3 (by decide) (open_none w A c 3 (by omega) (by decide) (by decide))
    · by_cases hl : 262144 < zs.length / 8
      · exact once_err w A A1 _ c n1 c1 2 (by decide) (open_long w A _ c 3 (by omega) h8 hl (by decide) (by decide))
      · obtain ⟨m, hm⟩ : ∃ m, zs.length = m * 8 := ⟨zs.length / 8, by omega⟩
        by_cases hb : 60 < zs.length ∨ 60 < n1
        · have HO := open_ok w A m c 3 zs hm (by omega) (by omega) (by omega) (by omega) hz hA (by decide) (by decide)
          rw [← hm] at HO
          exact once_out w A A1 _ c n1 c1 _ (by omega) (by omega) hb HO
        · exact pdevOnce_yes w A A1 _ m c n1 c1 zs ys hm.symm (by omega) (by omega) rfl hcap (by omega) hz hA hy (by omega) hc1 (by omega) hY
  · exact once_err w A A1 _ c n1 c1 3 (by decide) (open_form w A _ c 3 (by omega) h8 (by decide) (by decide))

namespace pdevOnce
set_option maxRecDepth 100000 in
theorem lifted (os : Os) (started : os.Started) (H : Type) (enc : TypeId × Value → H) :
    ReturnsInHanded {} Try.checked os 5 .any (Rows.pdevOnceSpec.pre6 enc Try.prog Try.f5 Rows.pdevOnceRow.domain false) (Rows.pdevOnceSpec.post enc Try.prog Try.f5 false true false false) := by
  refine returnsInHanded_of_change (C := Try.checked) own started (by kernel_rfl) Try.func5
    (ChangeSpec.witness6 (enc := enc) (C := Try.checked) false ⟨#[], #[.slice none 0 0, .slice none 0 0], []⟩ 8 (by kernel_rfl) (by kernel_rfl) (by kernel_rfl) (by kernel_rfl)) ?_
  intro W base args ds gs before hval0 hW hcnd _
  have hval : ∀ (j : Nat) t v, Try.f5.params[j]? = some t → args[j]? = some v → Value.okWide Try.prog W .any base t v := hval0
  have hW' := hW
  obtain ⟨p, q, hA0, hV, rfl, hfz, hnd⟩ := hW
  have hA : DataW.TrodAll enc Try.prog W 0 (fun _ => true) true Try.f5.params.toList args.toList ds p := hA0
  have hlt : ∀ x ∈ p ++ q, x.block < W.heap.size := fun x hx => hW'.lt x hx
  rw [Try.params5] at hA hval
  have hB := hA
  obtain ⟨v0, vs0, d0, ds0, p0, q0, hargs, rfl, rfl, h0, r0⟩ := trodAll_cons hB
  obtain ⟨v1, vs1, d1, ds1, p1, q1, rfl, rfl, rfl, h1, r1⟩ := trodAll_cons r0
  obtain ⟨rfl, rfl, rfl⟩ := trodAll_nil r1
  obtain rfl : args = #[v0, v1] := by cases args; simp_all
  obtain ⟨rfl, rfl⟩ := trodVars_none hV
  obtain ⟨A0, c0, z0, rfl, lc0, mc0, I0, w0⟩ := view_ints Try.underlying22 Try.underlying32 (by kernel_rfl) (hval 0 22 v0 rfl rfl) h0
  obtain ⟨A1, n1, c1, y1, rfl, lc1, mc1, zl1, I1⟩ := view_acts Try.underlying23 Try.underlying36 (by kernel_rfl) (by kernel_rfl) Try.underlying3 Try.underlying3 Try.underlying3 Try.underlying3 Try.underlying32 (hval 1 23 v1 rfl rfl) h1
  clear hA0 hval0
  refine (pdevOnce_walk W A0 A1 c0 n1 c1 z0 y1 lc0 mc0 (lim_u64 w0) I0 zl1 lc1 mc1 I1).mono fun e W' ⟨he, hx⟩ => ?_
  subst he
  exact ⟨_, rfl, post_ext (pv := []) hW' (fun _ _ _ => (trodAll_cons_mk (shut_bool Try.underlying4 _) trodAll_mk0)) (fun sp hsp => trodAll_stays laid hx _ _ _ _ (readable_of (by kernel_rfl)) hA (fun x hx => hlt x (by first | (simp at hx ⊢; exact hx) | simp at hx)) (fun x hx => hsp x (by first | (simp at hx ⊢; exact hx) | simp at hx))) (fun _ _ => rfl) rfl hx (ok_one (by kernel_rfl) rfl (okWide_bool_mk Try.underlying4 _))⟩

theorem over : Rows.pdevOnceRow.holds Try.pinned (OpenSpec.ofChange Rows.pdevOnceSpec) :=
  OpenClaim.holds_of_wide 5 Try.f5 rfl rfl rfl rfl rfl rfl rfl ⟨rfl, rfl, rfl, rfl, rfl⟩ rfl rfl rfl rfl rfl (by kernel_rfl) Try.func5 (by kernel_rfl)
    (of_decide_eq_true (by kernel_rfl)) (by unfold Func.isWrapper; first | (rw [if_pos (by decide +kernel)]; kernel_rfl) | (rw [if_neg (by decide +kernel)]; exact ⟨rfl, rfl⟩))
    (fun os started H enc _ => lifted os started H enc)
end pdevOnce

theorem pdevOnce_holds : Rows.PdevOnceSaid := pdevOnce.over
#print axioms pdevOnce_holds
end Go.Proofs.Ytibeeobhpdallaa
