/- Which slots stand in a log: the law answers true for every ground and thread, and changes nothing. Conditions: none. -/
import Derived.Test.YtfbobdkfibhcnaaGreatKRetC
import Derived.Test.YtfbobdkfibhcnaaGreatGrView
import Derived.Test.YtfbobdkfibhcnaaGreatArgs
namespace Go.Proofs.YtfbobdkfibhcnaaGreat
open Go.ChangeShapes Go.WideShapes Go.ChangeAt Go.RowKit
set_option linter.unusedVariables false

theorem log_out {t s l b : Nat} {a n : Int} (h : ¬ (0 ≤ a ∧ a < (t : Int))) : logN (layF t s l b) a n = (wN t s l b : Int) * 8 := by
  have e : logN (layF t s l b) a n = if 0 ≤ n ∧ n < (l : Int) then wordAt (layF t s l b 4) (layF t s l b 15) (layF t s l b 16) (t : Int) a n else layF t s l b 4 * 8 := rfl
  have e4 : layF t s l b 4 = 5 + (((b : Int) + 7) / 8) + t + t * (((l : Int) + 7) / 8) + s := rfl
  have ew : layF t s l b 4 = (wN t s l b : Int) := by
    rw [e4]
    unfold wN
    have e1 : (((b + 7) / 8 : Nat) : Int) = ((b : Int) + 7) / 8 := by omega
    have e2 : (((l + 7) / 8 : Nat) : Int) = ((l : Int) + 7) / 8 := by omega
    rw [← e1, ← e2]
    push_cast
    rw [Int.mul_comm (t : Int)]
  rw [e]
  split
  · unfold wordAt
    rw [if_neg h, ew]
  · rw [ew]
theorem logL_app {m : Nat} (V : Nat → Int) (a b : List (Fin m)) : logL V (a ++ b) = logL V a ++ logL V b := List.filterMap_append ..
theorem logL_zero {m : Nat} (V : Nat → Int) (a : List (Fin m)) (h : ∀ x ∈ a, V x.val = 0) : logL V a = [] := by
  unfold logL
  rw [List.filterMap_eq_nil_iff]
  intro x hx
  rw [if_pos (h x hx)]
theorem slotsL_all {t s l b : Nat} {st : MSt} (h : MOk (2 + t + s) (wN t s l b) st) (a : Int) : slotsL (layF t s l b) t l st a = logL (VF (layF t s l b) a st) (List.finRange l) := by
  unfold slotsL
  by_cases hr : 0 ≤ a ∧ a < (t : Int)
  · rw [if_pos hr]
  · rw [if_neg hr, logL_zero]
    intro x _
    unfold VF
    rw [log_out hr]
    exact peekV_no (by
      unfold peekB
      rw [if_pos (by omega), h.n]
      simp)
theorem take_app {m : Nat} (V : Nat → Int) (k : Nat) (hk : k < m) : logL V (List.finRange m) = logL V ((List.finRange m).take k) ++ (if V k = 0 then [] else [toN (V k)]) ++ logL V ((List.finRange m).drop (k + 1)) := by
  have e : (List.finRange m) = (List.finRange m).take k ++ [⟨k, hk⟩] ++ (List.finRange m).drop (k + 1) := by
    rw [← finRange_take_more m k hk, List.take_append_drop]
  have e2 : logL V (List.finRange m) = logL V ((List.finRange m).take k ++ [⟨k, hk⟩] ++ (List.finRange m).drop (k + 1)) := by rw [← e]
  rw [e2, logL_app, logL_snoc]
theorem take_more {m : Nat} (V : Nat → Int) (k : Nat) (hk : k < m) : logL V ((List.finRange m).take (k + 1)) = logL V ((List.finRange m).take k) ++ (if V k = 0 then [] else [toN (V k)]) := by
  rw [finRange_take_more m k hk, logL_snoc]
set_option maxRecDepth 100000 in
set_option maxHeartbeats 4000000 in
theorem retireSlots_yes (w : World) (A : Option Addr) (n c : Nat) (t s l b : Nat) (th : Int) (ys : List Put) (hg : GrOk t s l b) (hy : ys.length = n) (hn : n ≤ 100) (hY : PutsAt w A ys) :
    Calls Tryz.prog 7 #[.agg #[.int .i64 t, .int .i64 s, .int .i64 l, .int .i64 b, .slice A n c], .int .i64 th] w fun e w' => e = .returned (.bool true) ∧ Ext w w' := by
  have X0 := Lib.hid ((Ext.refl w).alloc (.cells #[.int .i64 t, .int .i64 s, .int .i64 l, .int .i64 b, .slice A n c] 26))
  have B0 := Lib.hid (Blk.new w 26 [.int .i64 t, .int .i64 s, .int .i64 l, .int .i64 b, .slice A n c])
  have HL := Lib.hid (lay_ok (w.alloc (.cells #[.int .i64 t, .int .i64 s, .int .i64 l, .int .i64 b, .slice A n c] 26)) A n c t s l b ys hg hy hn (hY.ext X0.out))
  obtain ⟨hc, h1, h2, h3, h4⟩ := id hg
  obtain ⟨⟨q0, q1⟩, ⟨q2, q3⟩, ⟨q4, q5⟩, q6, q7⟩ := id hc
  have HC : Hid (CfgN t s l b) := Lib.hid ⟨by omega, by omega, by omega, by omega, by omega⟩
  have HOk := Lib.hid (okayF hc)
  have hl8 : l ≤ 8 := by omega
  clear hY hg hc h1 h2 h3 h4 q0 q1 q2 q3 q4 q5 q6 q7
  go_enter Tryz.func7, Tryz.ntmps7
  go_upto_region 1 with fail
  generalize w.alloc (.cells #[.int .i64 t, .int .i64 s, .int .i64 l, .int .i64 b, .slice A n c] 26) = W0 at *
  have y0 : W0.cell? ⟨w.heap.size, 0, none⟩ = some (.int .i64 t) := B0.out.cell 0
  have y1 : W0.cell? ⟨w.heap.size, 1, none⟩ = some (.int .i64 s) := B0.out.cell 1
  have y2 : W0.cell? ⟨w.heap.size, 2, none⟩ = some (.int .i64 l) := B0.out.cell 2
  have y3 : W0.cell? ⟨w.heap.size, 3, none⟩ = some (.int .i64 b) := B0.out.cell 3
  have y4 : W0.cell? ⟨w.heap.size, 4, none⟩ = some (.slice A n c) := B0.out.cell 4
  go_wp2_with fail
  refine HL.out.mono ?_
  rintro e w1 ⟨gl, gm, dv, pv, g, R, rv, rfl, bl, gr⟩
  have X1 := Lib.hid (X0.out.trans gr.mem.lt.1)
  have B1 := Lib.hid (B0.out.ext gr.mem.lt.1)
  have hsl := slots_ok (t := th) gr.mem HOk.out t l rfl (by omega) rfl bl
  rw [slotsL_all (st := groundSt t s l b ys) ((MOk.start t s l b).putAll ys)] at hsl
  have HSl := Lib.hid hsl
  have HRl := Lib.hid (fun W n => rlog_ok HC.out th n W)
  have HPk := Lib.hid (fun W (x : Ext w1 W) n => refPeek_ok (gr.ref.ext x) gr.sound (logN (layF t s l b) th n) (logN_rng HOk.out th n).1 (logN_rng HOk.out th n).2)
  have HNo : Hid (∀ n, peekB (groundSt t s l b ys) (logN (layF t s l b) th n) = false → peekV (groundSt t s l b ys) (logN (layF t s l b) th n) = 0) := Lib.hid (fun n => peekV_no)
  have HU := Lib.hid (fun a => gr.mem.peekU a)
  clear hsl bl gr y0 y1 y2 y3 y4 HL B0 X0 HOk HC
  generalize groundSt t s l b ys = st at *
  go_wp2_with fail
  refine HSl.out.mono ?_
  rintro e w2 ⟨v, rfl, row, x2⟩
  have ROW := Lib.hid row
  obtain ⟨av, cv, hvv, hI, hcv1⟩ := row.form
  subst hvv
  have HI := Lib.hid hI
  have X12 := Lib.hid x2
  have B2 := Lib.hid (B1.out.ext x2)
  have hlen : (logL (VF (layF t s l b) th st) (List.finRange l)).length ≤ l := by have := logL_len (VF (layF t s l b) th st) (List.finRange l); simpa using this
  clear row x2 HSl hI hcv1
  obtain ⟨zs, hzs⟩ : ∃ zs, logL (VF (layF t s l b) th st) (List.finRange l) = zs := ⟨_, rfl⟩
  rw [hzs] at HI ROW hlen
  rw [hzs]
  have HZs := Lib.hid hzs
  clear hzs
  obtain ⟨zl, hzl⟩ : ∃ zl, zs.length = zl := ⟨_, rfl⟩
  rw [hzl] at hlen
  rw [hzl]
  have HZl := Lib.hid hzl
  clear hzl
  have y2 : w2.cell? ⟨w.heap.size, 2, none⟩ = some (.int .i64 l) := B2.out.cell 2
  go_wp2_with fail
  clear y2
  go_loopw [10, 11] (fun a i wr => ∃ k : Nat, k ≤ l ∧ i = .int .i64 k ∧ a = .int .i64 ((logL (VF (layF t s l b) th st) ((List.finRange l).take k)).length : Nat) ∧ Ext w2 wr) (fun a i _ => l - (intOf i).toNat)
  case atStart => exact ⟨0, Nat.zero_le _, rfl, by simp [logL], Ext.refl _⟩
  case round =>
    obtain ⟨k, hk, rfl, rfl, xr⟩ := hrel
    have XR := Lib.hid xr
    have y2 : wr.cell? ⟨w.heap.size, 2, none⟩ = some (.int .i64 l) := (B2.out.ext xr).cell 2
    clear xr
    by_cases hlt : k < l
    · have v1 : decide (k < l) = true := by simpa using hlt
      have v2 : decide ((k : Int) < (l : Int)) = true := by simp; omega
      have hta := take_app (VF (layF t s l b) th st) k hlt
      have htm := take_more (VF (layF t s l b) th st) k hlt
      have HNk := Lib.hid (HNo.out (k : Int))
      have hUk := HU.out (logN (layF t s l b) th (k : Int))
      have eV : VF (layF t s l b) th st k = peekV st (logN (layF t s l b) th (k : Int)) := rfl
      rw [eV] at hta htm
      rw [HZs.out] at hta
      have HPk1 := Lib.hid (fun W (x : Ext wr W) => HPk.out W ((X12.out.trans XR.out).trans x) (k : Int))
      have HRl1 := Lib.hid (fun W => HRl.out W (k : Int))
      have y0 : wr.cell? ⟨w.heap.size, 0, none⟩ = some (.int .i64 t) := (B2.out.ext XR.out).cell 0
      have y1 : wr.cell? ⟨w.heap.size, 1, none⟩ = some (.int .i64 s) := (B2.out.ext XR.out).cell 1
      have y3 : wr.cell? ⟨w.heap.size, 3, none⟩ = some (.int .i64 b) := (B2.out.ext XR.out).cell 3
      obtain ⟨pre, hpre⟩ : ∃ pre, logL (VF (layF t s l b) th st) ((List.finRange l).take k) = pre := ⟨_, rfl⟩
      obtain ⟨rest, hrest⟩ : ∃ rest, logL (VF (layF t s l b) th st) ((List.finRange l).drop (k + 1)) = rest := ⟨_, rfl⟩
      rw [hpre] at hta htm
      rw [hrest] at hta
      rw [hpre]
      have HTm := Lib.hid htm
      clear hpre hrest eV htm
      obtain ⟨vv, hvv⟩ : ∃ vv, peekV st (logN (layF t s l b) th (k : Int)) = vv := ⟨_, rfl⟩
      obtain ⟨pb, hpb⟩ : ∃ pb, peekB st (logN (layF t s l b) th (k : Int)) = pb := ⟨_, rfl⟩
      obtain ⟨aa, haa⟩ : ∃ aa, logN (layF t s l b) th (k : Int) = aa := ⟨_, rfl⟩
      rw [haa] at hvv hpb HPk1 HRl1 HNk hta HTm hUk
      rw [hvv] at HPk1 HNk hta HTm hUk
      rw [hpb] at HPk1 HNk
      clear hvv hpb haa
      obtain ⟨pl, hpl⟩ : ∃ pl, pre.length = pl := ⟨_, rfl⟩
      rw [hpl]
      by_cases v0 : vv = 0
      · rw [if_pos v0, List.append_nil] at hta
        have HTm2 : Hid ((logL (VF (layF t s l b) th st) ((List.finRange l).take (k + 1))).length = pl) := Lib.hid (by rw [HTm.out, if_pos v0, List.append_nil]; exact hpl)
        subst v0
        clear hta hUk hpl HTm HNk
        go_wp2_with fail
        refine (HRl1.out _).mono ?_
        rintro e w3 ⟨rfl, x3⟩
        have X3 := Lib.hid x3
        clear x3 y0 y1 y2 y3
        go_wp2_with fail
        refine (HPk1.out _ X3.out).mono ?_
        rintro e w' ⟨rfl, rfl⟩
        cases pb
        all_goals
          go_wp2_with fail
          go_roundw
          case rel => exact ⟨k + 1, by omega, by go_num, by rw [HTm2.out], XR.out.trans X3.out⟩
          case measure => simp [intOf]; omega
      · have d0 : (vv == 0) = false := by rw [beq_eq_false_iff_ne]; exact v0
        obtain rfl : pb = true := by
          cases pb
          · exact absurd (HNk.out rfl) v0
          · rfl
        rw [if_neg v0] at hta
        have HTm2 : Hid ((logL (VF (layF t s l b) th st) ((List.finRange l).take (k + 1))).length = pl + 1) := Lib.hid (by rw [HTm.out, if_neg v0, List.length_append, hpl]; rfl)
        have hzl2 : pl < zl := by rw [← HZl.out, hta, ← hpl]; simp only [List.length_append, List.length_cons, List.length_nil]; omega
        have hget : zs.getD pl 0 = toN vv := by rw [hta, ← hpl]; simp [List.getD_eq_getElem?_getD]
        have d1 : decide ((zl : Int) ≤ (pl : Int)) = false := by simp; omega
        have d1' : decide (zl ≤ pl) = false := by simp; omega
        obtain ⟨ga, ca, hav, hca, hcm, lga, hga⟩ := (RowN.of_row ROW.out).at_ (by rw [HZl.out]; omega)
        injection hav with hav1 hav2 hav3
        have hcell : ∀ W, Ext w2 W → W.cell? ⟨ga, pl, none⟩ = some (.int .i64 (toN vv)) := fun W x => by
          have hr := RowN.cell (j := pl) (RowN.of_row (by rw [← hav3, ← hav1] at *; exact ROW.out)) (by rw [HZl.out]; omega)
          rw [hget] at hr
          exact cellE hr x
        subst hav1 hav3
        have HCe := Lib.hid hcell
        have HTo : Hid (∀ W, Calls Tryz.prog 43 #[.int .u64 vv] W fun e w' => e = .returned (.int .i64 (toN vv)) ∧ Ext W w') := Lib.hid (fun W => rto_any vv hUk.1 hUk.2 W)
        have dt : (toN vv != toN vv) = false := by simp
        clear hta hUk hpl HTm HNk v0 hcell hget hav2 hca hcm
        generalize toN vv = tv at *
        go_wp2_with fail
        refine (HRl1.out _).mono ?_
        rintro e w3 ⟨rfl, x3⟩
        have X3 := Lib.hid x3
        clear x3 y0 y1 y2 y3
        go_wp2_with fail
        refine (HPk1.out _ X3.out).mono ?_
        rintro e w' ⟨rfl, rfl⟩
        have M := Lib.hid ((XR.out.trans X3.out).trans ((Ext.refl w3).drew))
        go_wp2_with fail
        go_region_held3 (fun W => W.cell? ⟨ga, pl, none⟩ = some (.int .i64 tv)) (first | exact HCe.out _ M.out | go_keep) (first
          | (go_at_call 43; refine (HTo.out _).mono ?_; rintro e w4 ⟨rfl, x4⟩; replace M := Lib.hid (M.out.trans x4); clear x4))
        all_goals
          go_wp2_with fail
          go_roundw
          case rel => exact ⟨k + 1, by omega, by go_num, by rw [HTm2.out]; go_num, M.out⟩
          case measure => simp [intOf]; omega
    · have v1 : decide (k < l) = false := by simpa using hlt
      have v2 : decide ((k : Int) < (l : Int)) = false := by simp; omega
      obtain rfl : k = l := by omega
      rw [show (List.finRange k).take k = List.finRange k from List.take_of_length_le (by simp), HZs.out, HZl.out]
      have dz : ((zl : Int) == (zl : Int)) = true := by simp
      generalize wr = wz at *
      go_wp2_with fail
      refine (awake11_ok _).mono ?_
      rintro e w4 ⟨rfl, x4⟩
      have X4 := Lib.hid (((X1.out.trans X12.out).trans XR.out).trans x4)
      clear x4 y2
      go_wp2_with fail
      go_ret
      exact ⟨rfl, X4.out⟩

set_option maxRecDepth 100000 in
set_option maxHeartbeats 4000000 in
theorem retireSlots_no (w : World) (A : Option Addr) (n c : Nat) (t s l b th : Int) (h : ¬ GrOk t s l b ∨ 100 < n) (hn : n ≤ 9223372036854775807) :
    Calls Tryz.prog 7 #[.agg #[.int .i64 t, .int .i64 s, .int .i64 l, .int .i64 b, .slice A n c], .int .i64 th] w fun e w' => e = .returned (.bool true) ∧ Ext w w' := by
  have X0 := Lib.hid ((Ext.refl w).alloc (.cells #[.int .i64 t, .int .i64 s, .int .i64 l, .int .i64 b, .slice A n c] 26))
  have HL := Lib.hid (fun W => lay_no W A n c t s l b h hn)
  unfold NoGr at HL
  clear h
  go_enter Tryz.func7, Tryz.ntmps7
  go_wp2_with fail
  refine (HL.out _).mono ?_
  rintro e w1 ⟨rfl, x1⟩
  have X1 := Lib.hid (X0.out.trans x1)
  clear x1
  go_wp2_with fail
  refine (awake11_ok _).mono ?_
  rintro e w2 ⟨rfl, x2⟩
  have X2 := Lib.hid (X1.out.trans x2)
  clear x2
  go_wp2_with fail
  go_ret
  exact ⟨rfl, X2.out⟩
theorem retireSlots_walk (w : World) (A : Option Addr) (n c : Nat) (t s l b th : Int) (ys : List Put) (hy : ys.length = n) (hn : n ≤ 9223372036854775807) (hY : PutsAt w A ys) :
    Calls Tryz.prog 7 #[.agg #[.int .i64 t, .int .i64 s, .int .i64 l, .int .i64 b, .slice A n c], .int .i64 th] w fun e w' => e = .returned (.bool true) ∧ Ext w w' := by
  by_cases h : GrOk t s l b ∧ n ≤ 100
  · obtain ⟨hg, hn1⟩ := h
    obtain ⟨⟨q0, q1⟩, ⟨q2, q3⟩, ⟨q4, q5⟩, q6, q7⟩ := id hg.1
    obtain ⟨t', rfl⟩ := Int.eq_ofNat_of_zero_le (show 0 ≤ t by omega)
    obtain ⟨s', rfl⟩ := Int.eq_ofNat_of_zero_le (show 0 ≤ s by omega)
    obtain ⟨l', rfl⟩ := Int.eq_ofNat_of_zero_le (show 0 ≤ l by omega)
    obtain ⟨b', rfl⟩ := Int.eq_ofNat_of_zero_le (show 0 ≤ b by omega)
    exact retireSlots_yes w A n c t' s' l' b' th ys hg hy hn1 hY
  · exact retireSlots_no w A n c t s l b th (by
      by_cases hg : GrOk t s l b
      · exact Or.inr (by
          have : ¬ n ≤ 100 := fun h2 => h ⟨hg, h2⟩
          omega)
      · exact Or.inl hg) hn

namespace retireSlots
set_option maxRecDepth 100000 in
theorem lifted (os : Os) (started : os.Started) (H : Type) (enc : TypeId × Value → H) :
    ReturnsInHanded {} Tryz.checked os 7 .any (Rows.retireSlotsSpec.pre6 enc Tryz.prog Tryz.f7 Rows.retireSlotsRow.domain false) (Rows.retireSlotsSpec.post enc Tryz.prog Tryz.f7 false true false false) := by
  refine returnsInHanded_of_change (C := Tryz.checked) own started (by kernel_rfl) Tryz.func7
    (ChangeSpec.witness6 (enc := enc) (C := Tryz.checked) false ⟨#[], #[.agg #[.int .i64 0, .int .i64 0, .int .i64 0, .int .i64 0, .slice none 0 0], .int .i64 0], []⟩ 8 (by kernel_rfl) (by kernel_rfl) (by kernel_rfl) (by kernel_rfl)) ?_
  intro W base args ds gs before hval0 hW hcnd _
  have hval : ∀ (j : Nat) t v, Tryz.f7.params[j]? = some t → args[j]? = some v → Value.okWide Tryz.prog W .any base t v := hval0
  have hW' := hW
  obtain ⟨p, q, hA0, hV, rfl, hfz, hnd⟩ := hW
  have hA : DataW.TrodAll enc Tryz.prog W 0 (fun _ => true) true Tryz.f7.params.toList args.toList ds p := hA0
  have hlt : ∀ x ∈ p ++ q, x.block < W.heap.size := fun x hx => hW'.lt x hx
  rw [Tryz.params7] at hA hval
  have hB := hA
  obtain ⟨v0, vs0, d0, ds0, p0, q0, hargs, rfl, rfl, h0, r0⟩ := trodAll_cons hB
  obtain ⟨v1, vs1, d1, ds1, p1, q1, rfl, rfl, rfl, h1, r1⟩ := trodAll_cons r0
  obtain ⟨rfl, rfl, rfl⟩ := trodAll_nil r1
  obtain rfl : args = #[v0, v1] := by cases args; simp_all
  obtain ⟨rfl, rfl⟩ := trodVars_none hV
  obtain ⟨g0t, g0s, g0l, g0b, A0, c0, y0, rfl, lc0, mc0, I0⟩ := view_ground Tryz.underlying26 (by kernel_rfl) rfl (by kernel_rfl) rfl (by kernel_rfl) Tryz.underlying23 (by kernel_rfl) Tryz.underlying3 Tryz.underlying3 Tryz.underlying3 Tryz.underlying3 Tryz.underlying24 Tryz.underlying93 (by kernel_rfl) (by kernel_rfl) Tryz.underlying3 Tryz.underlying37 (hval 0 26 v0 rfl rfl) h0
  obtain ⟨a1, rfl, rfl, rfl, w1⟩ := open_int Tryz.underlying3 (hval 1 3 v1 rfl rfl) h1
  clear hA0 hval0
  refine (retireSlots_walk W A0 _ c0 g0t g0s g0l g0b a1 y0 rfl (Nat.le_trans lc0 mc0) I0).mono fun e W' ⟨he, hx⟩ => ?_
  subst he
  exact ⟨_, rfl, post_ext (pv := []) hW' (fun _ _ _ => (trodAll_cons_mk (shut_bool Tryz.underlying4 _) trodAll_mk0)) (fun sp hsp => trodAll_stays laid hx _ _ _ _ (readable_of (by kernel_rfl)) hA (fun x hx => hlt x (by first | (simp at hx ⊢; exact hx) | simp at hx)) (fun x hx => hsp x (by first | (simp at hx ⊢; exact hx) | simp at hx))) (fun _ _ => rfl) rfl hx (ok_one (by kernel_rfl) rfl (okWide_bool_mk Tryz.underlying4 _))⟩

theorem over : Rows.retireSlotsRow.holds Tryz.pinned (OpenSpec.ofChange Rows.retireSlotsSpec) :=
  OpenClaim.holds_of_wide 7 Tryz.f7 rfl rfl rfl rfl rfl rfl rfl ⟨rfl, rfl, rfl, rfl, rfl⟩ rfl rfl rfl rfl rfl (by kernel_rfl) Tryz.func7 (by kernel_rfl)
    (of_decide_eq_true (by kernel_rfl)) (by unfold Func.isWrapper; first | (rw [if_pos (by decide +kernel)]; kernel_rfl) | (rw [if_neg (by decide +kernel)]; exact ⟨rfl, rfl⟩))
    (fun os started H enc _ => lifted os started H enc)
end retireSlots

theorem retireSlots_holds : Rows.RetireSlotsSaid := retireSlots.over
#print axioms retireSlots_holds
end Go.Proofs.YtfbobdkfibhcnaaGreat
