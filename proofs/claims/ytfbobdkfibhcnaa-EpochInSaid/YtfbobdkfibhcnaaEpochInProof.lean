/- By which epoch any thread is in: the law answers true for every ground and thread, and changes nothing. Conditions: none. -/
import Derived.Test.YtfbobdkfibhcnaaKEpB
import Derived.Test.YtfbobdkfibhcnaaPk
import Derived.Test.YtfbobdkfibhcnaaArgs
import Derived.Test.YtfbobdkfibhcnaaGrView
namespace Go.Proofs.Ytfbobdkfibhcnaa
open Go.ChangeShapes Go.WideShapes Go.ChangeAt Go.RowKit
set_option linter.unusedVariables false

theorem ann_out {t s l b : Nat} {n : Int} (h : ¬ (0 ≤ n ∧ n < (t : Int))) : ann (layF t s l b) n = (wN t s l b : Int) * 8 := by
  have e : ann (layF t s l b) n = wordAt (layF t s l b 4) (-3) (-1) (t : Int) n 0 := rfl
  have e4 : layF t s l b 4 = 5 + (((b : Int) + 7) / 8) + t + t * (((l : Int) + 7) / 8) + s := rfl
  rw [e]
  unfold wordAt
  rw [if_neg h, e4]
  unfold wN
  have e1 : (((b + 7) / 8 : Nat) : Int) = ((b : Int) + 7) / 8 := by omega
  have e2 : (((l + 7) / 8 : Nat) : Int) = ((l : Int) + 7) / 8 := by omega
  rw [← e1, ← e2]
  push_cast
  rw [Int.mul_comm (t : Int)]
theorem inS_ground {t s l b : Nat} {st : MSt} (h : MOk (2 + t + s) (wN t s l b) st) (n : Int) : inS (layF t s l b) t st n = if peekV st (ann (layF t s l b) n) = 0 then (0, false) else (peekV st (ann (layF t s l b) n) - 1, true) := by
  unfold inS
  by_cases hn : 0 ≤ n ∧ n < (t : Int)
  · rw [if_pos hn]
  · rw [if_neg hn]
    have : peekV st (ann (layF t s l b) n) = 0 := peekV_no (by
      rw [ann_out hn]
      unfold peekB
      rw [if_pos (by omega), h.n]
      simp)
    rw [if_pos this]
set_option maxRecDepth 100000 in
set_option maxHeartbeats 4000000 in
theorem epochIn_yes (w : World) (A : Option Addr) (n c : Nat) (t s l b : Nat) (th : Int) (ys : List Put) (hg : GrOk t s l b) (hy : ys.length = n) (hn : n ≤ 100) (hY : PutsAt w A ys) :
    Calls Try.prog 5 #[.agg #[.int .i64 t, .int .i64 s, .int .i64 l, .int .i64 b, .slice A n c], .int .i64 th] w fun e w' => e = .returned (.bool true) ∧ Ext w w' := by
  have X0 := Lib.hid ((Ext.refl w).alloc (.cells #[.int .i64 t, .int .i64 s, .int .i64 l, .int .i64 b, .slice A n c] 33))
  have B0 := Lib.hid (Blk.new w 33 [.int .i64 t, .int .i64 s, .int .i64 l, .int .i64 b, .slice A n c])
  have HL := Lib.hid (lay_ok (w.alloc (.cells #[.int .i64 t, .int .i64 s, .int .i64 l, .int .i64 b, .slice A n c] 33)) A n c t s l b ys hg hy hn (hY.ext X0.out))
  obtain ⟨hc, h1, h2, h3, h4⟩ := id hg
  obtain ⟨⟨q0, q1⟩, ⟨q2, q3⟩, ⟨q4, q5⟩, q6, q7⟩ := id hc
  have HC : Hid (CfgN t s l b) := Lib.hid ⟨by omega, by omega, by omega, by omega, by omega⟩
  have HOk := Lib.hid (okayF hc)
  have HF0 : Hid (layF t s l b 0 = (t : Int)) := Lib.hid rfl
  have har := Lib.hid (ann_rng (okayF hc) th)
  clear hY hg hc h1 h2 h3 h4 q0 q1 q2 q3 q4 q5 q6 q7
  go_enter Try.func5, Try.ntmps5
  go_upto_region 1 with fail
  generalize w.alloc (.cells #[.int .i64 t, .int .i64 s, .int .i64 l, .int .i64 b, .slice A n c] 33) = W0 at *
  have y0 : W0.cell? ⟨w.heap.size, 0, none⟩ = some (.int .i64 t) := B0.out.cell 0
  have y1 : W0.cell? ⟨w.heap.size, 1, none⟩ = some (.int .i64 s) := B0.out.cell 1
  have y2 : W0.cell? ⟨w.heap.size, 2, none⟩ = some (.int .i64 l) := B0.out.cell 2
  have y3 : W0.cell? ⟨w.heap.size, 3, none⟩ = some (.int .i64 b) := B0.out.cell 3
  have y4 : W0.cell? ⟨w.heap.size, 4, none⟩ = some (.slice A n c) := B0.out.cell 4
  go_wp2_with fail
  refine HL.out.mono ?_
  rintro e w1 ⟨gl, gm, dv, pv, g, R, rv, rfl, bl, gr⟩
  have X1 := Lib.hid (X0.out.trans gr.mem.lt.1)
  have B1 := Lib.hid (B0.out.ext gr.mem.lt.1)
  have hin := in_ok gr.mem HOk.out bl t HF0.out th
  rw [inS_ground (st := groundSt t s l b ys) ((MOk.start t s l b).putAll ys)] at hin
  have HIn := Lib.hid hin
  have HRa := Lib.hid (fun W => rann_ok HC.out th W)
  have HPk := Lib.hid (fun W (x : Ext w1 W) => refPeek_ok (gr.ref.ext x) gr.sound (ann (layF t s l b) th) har.out.1 har.out.2)
  have hpb : peekB (groundSt t s l b ys) (ann (layF t s l b) th) = false → peekV (groundSt t s l b ys) (ann (layF t s l b) th) = 0 := peekV_no
  have hv := gr.mem.peekU (ann (layF t s l b) th)
  clear hin bl gr y0 y1 y2 y3 y4 HL B0 X0 HOk HC HF0 har
  generalize peekV (groundSt t s l b ys) (ann (layF t s l b) th) = v at *
  generalize peekB (groundSt t s l b ys) (ann (layF t s l b) th) = pb at *
  generalize ann (layF t s l b) th = a at *
  by_cases v0 : v = 0
  · subst v0
    rw [if_pos rfl] at HIn
    clear hpb hv
    go_wp2_with fail
    refine HIn.out.mono ?_
    rintro e w2 ⟨rfl, x2⟩
    have x12 := Lib.hid x2
    have X2 := Lib.hid (X1.out.trans x2)
    have B2 := Lib.hid (B1.out.ext x2)
    clear x2 HIn
    have y0 : w2.cell? ⟨w.heap.size, 0, none⟩ = some (.int .i64 t) := B2.out.cell 0
    have y1 : w2.cell? ⟨w.heap.size, 1, none⟩ = some (.int .i64 s) := B2.out.cell 1
    have y2 : w2.cell? ⟨w.heap.size, 2, none⟩ = some (.int .i64 l) := B2.out.cell 2
    have y3 : w2.cell? ⟨w.heap.size, 3, none⟩ = some (.int .i64 b) := B2.out.cell 3
    go_wp2_with fail
    refine (HRa.out _).mono ?_
    rintro e w3 ⟨rfl, x3⟩
    have X3 := Lib.hid (X2.out.trans x3)
    have HP3 := Lib.hid (HPk.out w3 (x12.out.trans x3))
    clear x3 y0 y1 y2 y3 B2 X2 HPk B1 X1 x12
    go_wp2_with fail
    refine HP3.out.mono ?_
    rintro e w' ⟨rfl, rfl⟩
    cases pb
    all_goals
      go_wp2_with fail
      refine (awake10_ok _).mono ?_
      rintro e w4 ⟨rfl, x4⟩
      have X4 := Lib.hid (X3.out.trans x4)
      clear x4
      go_wp2_with fail
      go_ret
      exact ⟨rfl, X4.out⟩
  · obtain rfl : pb = true := by
      cases pb
      · exact absurd (hpb rfl) v0
      · rfl
    rw [if_neg v0] at HIn
    have d2 : (v == 0) = false := by rw [beq_eq_false_iff_ne]; exact v0
    have wv : IntKind.u64.wrap (v - 1) = v - 1 := u64w (v - 1) (by have := hv.1; omega) (by have := hv.2; omega)
    have d3 : (v - 1 == v - 1) = true := by simp
    clear hpb
    go_wp2_with fail
    refine HIn.out.mono ?_
    rintro e w2 ⟨rfl, x2⟩
    have x12 := Lib.hid x2
    have X2 := Lib.hid (X1.out.trans x2)
    have B2 := Lib.hid (B1.out.ext x2)
    clear x2 HIn
    have y0 : w2.cell? ⟨w.heap.size, 0, none⟩ = some (.int .i64 t) := B2.out.cell 0
    have y1 : w2.cell? ⟨w.heap.size, 1, none⟩ = some (.int .i64 s) := B2.out.cell 1
    have y2 : w2.cell? ⟨w.heap.size, 2, none⟩ = some (.int .i64 l) := B2.out.cell 2
    have y3 : w2.cell? ⟨w.heap.size, 3, none⟩ = some (.int .i64 b) := B2.out.cell 3
    go_wp2_with fail
    refine (HRa.out _).mono ?_
    rintro e w3 ⟨rfl, x3⟩
    have X3 := Lib.hid (X2.out.trans x3)
    have HP3 := Lib.hid (HPk.out w3 (x12.out.trans x3))
    clear x3 y0 y1 y2 y3 B2 X2 HPk B1 X1 x12
    go_wp2_with fail
    refine HP3.out.mono ?_
    rintro e w' ⟨rfl, rfl⟩
    go_wp2_with fail
    refine (awake10_ok _).mono ?_
    rintro e w4 ⟨rfl, x4⟩
    have X4 := Lib.hid (X3.out.trans x4)
    clear x4
    go_wp2_with fail
    go_ret
    exact ⟨rfl, X4.out⟩
set_option maxRecDepth 100000 in
set_option maxHeartbeats 4000000 in
theorem epochIn_no (w : World) (A : Option Addr) (n c : Nat) (t s l b th : Int) (h : ¬ GrOk t s l b ∨ 100 < n) (hn : n ≤ 9223372036854775807) :
    Calls Try.prog 5 #[.agg #[.int .i64 t, .int .i64 s, .int .i64 l, .int .i64 b, .slice A n c], .int .i64 th] w fun e w' => e = .returned (.bool true) ∧ Ext w w' := by
  have X0 := Lib.hid ((Ext.refl w).alloc (.cells #[.int .i64 t, .int .i64 s, .int .i64 l, .int .i64 b, .slice A n c] 33))
  have HL := Lib.hid (fun W => lay_no W A n c t s l b h hn)
  unfold NoGr at HL
  clear h
  go_enter Try.func5, Try.ntmps5
  go_wp2_with fail
  refine (HL.out _).mono ?_
  rintro e w1 ⟨rfl, x1⟩
  have X1 := Lib.hid (X0.out.trans x1)
  clear x1
  go_wp2_with fail
  refine (awake10_ok _).mono ?_
  rintro e w2 ⟨rfl, x2⟩
  have X2 := Lib.hid (X1.out.trans x2)
  clear x2
  go_wp2_with fail
  go_ret
  exact ⟨rfl, X2.out⟩
theorem epochIn_walk (w : World) (A : Option Addr) (n c : Nat) (t s l b th : Int) (ys : List Put) (hy : ys.length = n) (hn : n ≤ 9223372036854775807) (hY : PutsAt w A ys) :
    Calls Try.prog 5 #[.agg #[.int .i64 t, .int .i64 s, .int .i64 l, .int .i64 b, .slice A n c], .int .i64 th] w fun e w' => e = .returned (.bool true) ∧ Ext w w' := by
  by_cases h : GrOk t s l b ∧ n ≤ 100
  · obtain ⟨hg, hn1⟩ := h
    obtain ⟨⟨q0, q1⟩, ⟨q2, q3⟩, ⟨q4, q5⟩, q6, q7⟩ := id hg.1
    obtain ⟨t', rfl⟩ := Int.eq_ofNat_of_zero_le (show 0 ≤ t by omega)
    obtain ⟨s', rfl⟩ := Int.eq_ofNat_of_zero_le (show 0 ≤ s by omega)
    obtain ⟨l', rfl⟩ := Int.eq_ofNat_of_zero_le (show 0 ≤ l by omega)
    obtain ⟨b', rfl⟩ := Int.eq_ofNat_of_zero_le (show 0 ≤ b by omega)
    exact epochIn_yes w A n c t' s' l' b' th ys hg hy hn1 hY
  · exact epochIn_no w A n c t s l b th (by
      by_cases hg : GrOk t s l b
      · exact Or.inr (by
          have : ¬ n ≤ 100 := fun h2 => h ⟨hg, h2⟩
          omega)
      · exact Or.inl hg) hn

namespace epochIn
set_option maxRecDepth 100000 in
theorem lifted (os : Os) (started : os.Started) (H : Type) (enc : TypeId × Value → H) :
    ReturnsInHanded {} Try.checked os 5 .any (Rows.epochInSpec.pre6 enc Try.prog Try.f5 Rows.epochInRow.domain false) (Rows.epochInSpec.post enc Try.prog Try.f5 false true false false) := by
  refine returnsInHanded_of_change (C := Try.checked) own started (by kernel_rfl) Try.func5
    (ChangeSpec.witness6 (enc := enc) (C := Try.checked) false ⟨#[], #[.agg #[.int .i64 0, .int .i64 0, .int .i64 0, .int .i64 0, .slice none 0 0], .int .i64 0], []⟩ 8 (by kernel_rfl) (by kernel_rfl) (by kernel_rfl) (by kernel_rfl)) ?_
  intro W base args ds gs before hval0 hW hcnd _
  have hval : ∀ (j : Nat) t v, Try.f5.params[j]? = some t → args[j]? = some v → Value.okWide Try.prog W .any base t v := hval0
  have hW' := hW
  obtain ⟨p, q, hA0, hV, rfl, hfz, hnd⟩ := hW
  have hA : DataW.TrodAll enc Try.prog W 0 (fun _ => true) true Try.f5.params.toList args.toList ds p := hA0
  have hlt : ∀ x ∈ p ++ q, x.block < W.heap.size := fun x hx => hW'.lt x hx
  rw [Try.params5] at hA hval
  have hB := hA
  obtain ⟨v0, vs0, d0, ds0, p0, q0, hargs, rfl, rfl, h0, r0⟩ := trodAll_cons hB
  obtain ⟨v1, vs1, d1, ds1, p1, q1, rfl, rfl, rfl, h1, r1⟩ := trodAll_cons r0
  obtain ⟨rfl, rfl, rfl⟩ := trodAll_nil r1
  obtain rfl : args = #[v0, v1] := by cases args; simp_all
  obtain ⟨rfl, rfl⟩ := trodVars_none hV
  obtain ⟨g0t, g0s, g0l, g0b, A0, c0, y0, rfl, lc0, mc0, I0⟩ := view_ground Try.underlying33 (by kernel_rfl) rfl (by kernel_rfl) rfl (by kernel_rfl) Try.underlying23 (by kernel_rfl) Try.underlying3 Try.underlying3 Try.underlying3 Try.underlying3 Try.underlying31 Try.underlying59 (by kernel_rfl) (by kernel_rfl) Try.underlying3 Try.underlying52 (hval 0 33 v0 rfl rfl) h0
  obtain ⟨a1, rfl, rfl, rfl, w1⟩ := open_int Try.underlying3 (hval 1 3 v1 rfl rfl) h1
  clear hA0 hval0
  refine (epochIn_walk W A0 _ c0 g0t g0s g0l g0b a1 y0 rfl (Nat.le_trans lc0 mc0) I0).mono fun e W' ⟨he, hx⟩ => ?_
  subst he
  exact ⟨_, rfl, post_ext (pv := []) hW' (fun _ _ _ => (trodAll_cons_mk (shut_bool Try.underlying4 _) trodAll_mk0)) (fun sp hsp => trodAll_stays laid hx _ _ _ _ (readable_of (by kernel_rfl)) hA (fun x hx => hlt x (by first | (simp at hx ⊢; exact hx) | simp at hx)) (fun x hx => hsp x (by first | (simp at hx ⊢; exact hx) | simp at hx))) (fun _ _ => rfl) rfl hx (ok_one (by kernel_rfl) rfl (okWide_bool_mk Try.underlying4 _))⟩

theorem over : Rows.epochInRow.holds Try.pinned (OpenSpec.ofChange Rows.epochInSpec) :=
  OpenClaim.holds_of_wide 5 Try.f5 rfl rfl rfl rfl rfl rfl rfl ⟨rfl, rfl, rfl, rfl, rfl⟩ rfl rfl rfl rfl rfl (by kernel_rfl) Try.func5 (by kernel_rfl)
    (of_decide_eq_true (by kernel_rfl)) (by unfold Func.isWrapper; first | (rw [if_pos (by decide +kernel)]; kernel_rfl) | (rw [if_neg (by decide +kernel)]; exact ⟨rfl, rfl⟩))
    (fun os started H enc _ => lifted os started H enc)
end epochIn

theorem epochIn_holds : Rows.EpochInSaid := epochIn.over
#print axioms epochIn_holds
end Go.Proofs.Ytfbobdkfibhcnaa
