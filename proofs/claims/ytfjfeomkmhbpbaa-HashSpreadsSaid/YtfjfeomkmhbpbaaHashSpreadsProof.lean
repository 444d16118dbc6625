/- How many keys lie in each bucket: the law answers true for all keys and any number of buckets, and changes nothing. Conditions: none. -/
import Derived.Test.YtfjfeomkmhbpbaaHash3
import Derived.Test.YtfjfeomkmhbpbaaArgs
namespace Go.Proofs.Ytfjfeomkmhbpbaa
open Go.ChangeShapes Go.WideShapes Go.ChangeAt Go.RowKit
set_option linter.unusedVariables false

set_option maxHeartbeats 1000000 in
theorem hashSpreads_gen (mx : Nat → Nat) (w : World) (A : Option Addr) (n c : Nat) (zs : List Int) (hz : zs.length = n) (hn : n ≤ 300) (hI : Ints w .u32 A zs) (hr : ∀ j, j < n → ∃ a : Nat, zs.getD j 0 = (a : Int) ∧ a < 4294967296) (m : Nat) (h1 : 1 ≤ m) (h2 : m ≤ 64) (hM : ∀ (a : Nat), a < 4294967296 → ∀ W, Calls Try.prog 9 #[.int .u32 (a : Int)] W fun e w' => e = .returned (.int .i64 (mx a : Int)) ∧ W = w') (hl : ∀ a, mx a < 4294967296) (hS : Calls Try.prog 18 #[.slice A n c, .int .i64 (m : Int)] w fun e w' => ∃ g, e = .returned (.slice (some ⟨g, 0, none⟩) m m) ∧ Blk w' g 3 (cntV m (zs.map (bkN mx m))) ∧ Ext w w') :
    Calls Try.prog 5 #[.slice A n c, .int .i64 (m : Int)] w fun e w' => e = .returned (.bool true) ∧ Ext w w' := by
  have HSp := Lib.hid hS
  have HMx := Lib.hid hM
  have HLm := Lib.hid hl
  have HAw := Lib.hid (fun W => awake16_ok W)
  have HI := Lib.hid hI
  have HR := Lib.hid hr
  have HZ := Lib.hid hz
  have d0 : decide (300 < n) = false := by simp; omega
  have d0' : decide ((300 : Int) < (n : Int)) = false := by simp; omega
  have d1 : decide (m < 1) = false := by simp; omega
  have d1' : decide ((m : Int) < 1) = false := by simp; omega
  have d2 : decide (64 < m) = false := by simp; omega
  have d2' : decide ((64 : Int) < (m : Int)) = false := by simp; omega
  have d3 : (m != m) = false := by simp
  have d3' : ((m : Int) != (m : Int)) = false := by simp
  clear hI hr hz hM hl hS
  go_enter Try.func5, Try.ntmps5
  go_wp2_with fail
  refine HSp.out.mono ?_
  rintro e w1 ⟨g, rfl, b1, x1⟩
  have B1 := Lib.hid b1
  have X1 := Lib.hid x1
  clear b1 x1 HSp
  go_wp2_with fail
  clear d0 d0' d1 d1' d2 d2' d3 d3'
  go_loopw [6] (fun i wr => ∃ p : Nat, p ≤ m ∧ i = .int .i64 p ∧ Ext w1 wr) (fun i _ => m - (intOf i).toNat)
  case atStart => exact ⟨0, Nat.zero_le _, rfl, Ext.refl _⟩
  case round =>
    obtain ⟨p, hp, rfl, xp⟩ := hrel
    have XP := Lib.hid xp
    clear xp
    by_cases hlt : p < m
    · have v1 : decide (p < m) = true := by simp; omega
      have v1' : decide ((p : Int) < (m : Int)) = true := by simp; omega
      go_wp2_with fail
      generalize wr = w2 at *
      go_loopw [7, 8] (fun ct i wr => ∃ k : Nat, k ≤ n ∧ i = .int .i64 k ∧ ct = .int .i64 ((((zs.take k).map (bkN mx m)).count (p : Int) : Nat) : Int) ∧ Ext w2 wr) (fun _ i _ => n - (intOf i).toNat)
      case atStart => exact ⟨0, Nat.zero_le _, rfl, by rw [List.take_zero, List.map_nil, List.count_nil]; rfl, Ext.refl _⟩
      case round =>
        obtain ⟨k, hk, rfl, rfl, xk⟩ := hrel
        have XK := Lib.hid xk
        clear xk
        by_cases hkn : k < n
        · have v2 : decide (k < n) = true := by simp; omega
          have v2' : decide ((k : Int) < (n : Int)) = true := by simp; omega
          obtain ⟨ad, hAd, _, hcc⟩ := (HI.out.ext ((X1.out.trans XP.out).trans XK.out)) (by have := HZ.out; omega)
          have p0 := hcc k (by have := HZ.out; omega)
          have HTk := Lib.hid (take_on (L := zs) (k := k) (by have := HZ.out; omega))
          obtain ⟨a, ha, hal⟩ := HR.out k hkn
          rw [ha] at p0 HTk
          subst hAd
          clear hcc ha
          have HB := Lib.hid (fun W => HMx.out a hal W)
          have HTk2 : Hid (((zs.take (k + 1)).map (bkN mx m)).count (p : Int) = ((zs.take k).map (bkN mx m)).count (p : Int) + (if mx a % m = p then 1 else 0)) := Lib.hid (bk_count mx m a k p zs HTk.out)
          have em : (mx a : Int) % (m : Int) = ((mx a % m : Nat) : Int) := by rw [Int.natCast_emod]
          have hml := HLm.out a
          have hcb : ((zs.take k).map (bkN mx m)).count (p : Int) ≤ 1000 := by
            have h1 : ((zs.take k).map (bkN mx m)).count (p : Int) ≤ ((zs.take k).map (bkN mx m)).length := List.count_le_length
            rw [List.length_map, List.length_take] at h1
            omega
          generalize ((zs.take k).map (bkN mx m)).count (p : Int) = cc at *
          generalize mx a % m = q at *
          generalize mx a = my at *
          have tm : (my : Int).tmod (m : Int) = (q : Int) := by rw [Int.tmod_eq_emod_of_nonneg (by omega), em]
          by_cases e : q = p
          · have dq : ((q : Int) == (p : Int)) = true := by rw [beq_iff_eq]; omega
            have HC : Hid (((zs.take (k + 1)).map (bkN mx m)).count (p : Int) = cc + 1) := Lib.hid (by rw [HTk2.out, if_pos e])
            clear e
            go_wp2_with fail
            refine (HB.out _).mono ?_
            rintro e w' ⟨rfl, rfl⟩
            go_wp2_with fail
            clear em tm
            go_roundw
            case rel => exact ⟨k + 1, by omega, by go_num, by rw [HC.out]; go_num, XK.out⟩
            case measure => simp [intOf]; omega
          · have dq : ((q : Int) == (p : Int)) = false := by rw [beq_eq_false_iff_ne]; omega
            have HC : Hid (((zs.take (k + 1)).map (bkN mx m)).count (p : Int) = cc) := Lib.hid (by have h := HTk2.out; rw [if_neg e] at h; exact h)
            clear e
            go_wp2_with fail
            refine (HB.out _).mono ?_
            rintro e w' ⟨rfl, rfl⟩
            go_wp2_with fail
            clear em tm
            go_roundw
            case rel => exact ⟨k + 1, by omega, by go_num, by rw [HC.out], XK.out⟩
            case measure => simp [intOf]; omega
        · have v2 : decide (k < n) = false := by simp; omega
          have v2' : decide ((k : Int) < (n : Int)) = false := by simp; omega
          obtain rfl : k = n := by omega
          have y0 : wr.cell? ⟨g, p, none⟩ = some (.int .i64 ((((zs.take k).map (bkN mx m)).count (p : Int) : Nat) : Int)) := by
            rw [(B1.out.ext (XP.out.trans XK.out)).cell, cntV_at hlt, List.take_of_length_le (by have := HZ.out; omega)]
          obtain ⟨cc, hcc⟩ : ∃ cc, ((zs.take k).map (bkN mx m)).count (p : Int) = cc := ⟨_, rfl⟩
          rw [hcc] at y0
          have HCC := Lib.hid hcc
          rw [hcc]
          clear hcc
          have dcc : ((cc : Int) != (cc : Int)) = false := by simp
          go_wp2_with fail
          go_roundw
          case rel => exact ⟨p + 1, by omega, by go_num, XP.out.trans XK.out⟩
          case measure => simp [intOf]; omega
    · have v1 : decide (p < m) = false := by simp; omega
      have v1' : decide ((p : Int) < (m : Int)) = false := by simp; omega
      go_wp2_with fail
      refine (HAw.out _).mono ?_
      rintro e w' ⟨rfl, rfl⟩
      go_wp2_with fail
      go_ret
      exact ⟨rfl, X1.out.trans XP.out⟩
theorem hashSpreads_yes (w : World) (A : Option Addr) (n c : Nat) (zs : List Int) (hz : zs.length = n) (hn : n ≤ 300) (hI : Ints w .u32 A zs) (hr : ∀ j, j < n → ∃ a : Nat, zs.getD j 0 = (a : Int) ∧ a < 4294967296) (m : Nat) (h1 : 1 ≤ m) (h2 : m ≤ 64) :
    Calls Try.prog 5 #[.slice A n c, .int .i64 (m : Int)] w fun e w' => e = .returned (.bool true) ∧ Ext w w' :=
  hashSpreads_gen HM.mixN w A n c zs hz hn hI hr m h1 h2 (fun a ha W => rmix_any a ha W) HM.mixN_lt (spread_ok w A n c zs hz hn hI hr m h1 h2)
theorem hashSpreads_no (w : World) (A : Option Addr) (n c : Nat) (m : Int) (hm : m < 9223372036854775808) (hn0 : n ≤ 9223372036854775807) (h : 300 < n ∨ m < 1 ∨ 64 < m) :
    Calls Try.prog 5 #[.slice A n c, .int .i64 m] w fun e w' => e = .returned (.bool true) ∧ Ext w w' := by
  have HAw := Lib.hid (fun W => awake16_ok W)
  by_cases hn : 300 < n
  · have d0 : decide (300 < n) = true := by simp; omega
    have d0' : decide ((300 : Int) < (n : Int)) = true := by simp; omega
    go_enter Try.func5, Try.ntmps5
    go_wp2_with fail
    refine (HAw.out _).mono ?_
    rintro e w' ⟨rfl, rfl⟩
    go_wp2_with fail
    go_ret
    exact ⟨rfl, Ext.refl _⟩
  · have d0 : decide (300 < n) = false := by simp; omega
    have d0' : decide ((300 : Int) < (n : Int)) = false := by simp; omega
    have hm2 : m < 1 ∨ 64 < m := by omega
    have HSp := Lib.hid (spread_no w A n c m hm2)
    by_cases h1 : m < 1
    · have d1 : decide (m < 1) = true := by simp; omega
      go_enter Try.func5, Try.ntmps5
      go_wp2_with fail
      refine HSp.out.mono ?_
      rintro e w' ⟨rfl, rfl⟩
      go_wp2_with fail
      refine (HAw.out _).mono ?_
      rintro e w' ⟨rfl, rfl⟩
      go_wp2_with fail
      go_ret
      exact ⟨rfl, Ext.refl _⟩
    · have d1 : decide (m < 1) = false := by simp; omega
      have d2 : decide (64 < m) = true := by simp; omega
      go_enter Try.func5, Try.ntmps5
      go_wp2_with fail
      refine HSp.out.mono ?_
      rintro e w' ⟨rfl, rfl⟩
      go_wp2_with fail
      refine (HAw.out _).mono ?_
      rintro e w' ⟨rfl, rfl⟩
      go_wp2_with fail
      go_ret
      exact ⟨rfl, Ext.refl _⟩
theorem hashSpreads_walk (w : World) (A : Option Addr) (n c : Nat) (zs : List Int) (hz : zs.length = n) (hn : n ≤ 9223372036854775807) (hI : Ints w .u32 A zs) (hr : ∀ x ∈ zs, (Lit.int .u32 x).wf = true) (m : Int) (hm : (Lit.int .i64 m).wf = true) :
    Calls Try.prog 5 #[.slice A n c, .int .i64 m] w fun e w' => e = .returned (.bool true) ∧ Ext w w' := by
  obtain ⟨hm0, hm1⟩ := wf_i64 hm
  by_cases h : 300 < n ∨ m < 1 ∨ 64 < m
  · exact hashSpreads_no w A n c m hm1 hn h
  · obtain ⟨m', rfl⟩ := Int.eq_ofNat_of_zero_le (show 0 ≤ m by omega)
    exact hashSpreads_yes w A n c zs hz (by omega) hI (fun j hj => by
      have hmem : zs.getD j 0 ∈ zs := by
        rw [List.getD_eq_getElem?_getD, List.getElem?_eq_getElem (by omega)]
        exact List.getElem_mem _
      obtain ⟨h0, h1⟩ := wf_u32 (hr _ hmem)
      exact ⟨(zs.getD j 0).toNat, by omega, by omega⟩) m' (by omega) (by omega)

namespace hashSpreads
set_option maxRecDepth 100000 in
theorem lifted (os : Os) (started : os.Started) (H : Type) (enc : TypeId × Value → H) :
    ReturnsInHanded {} Try.checked os 5 .any (Rows.hashSpreadsSpec.pre6 enc Try.prog Try.f5 Rows.hashSpreadsRow.domain false) (Rows.hashSpreadsSpec.post enc Try.prog Try.f5 false true false false) := by
  refine returnsInHanded_of_change (C := Try.checked) own started (by kernel_rfl) Try.func5
    (ChangeSpec.witness6 (enc := enc) (C := Try.checked) false ⟨#[], #[.slice none 0 0, .int .i64 0], []⟩ 8 (by kernel_rfl) (by kernel_rfl) (by kernel_rfl) (by kernel_rfl)) ?_
  intro W base args ds gs before hval0 hW hcnd _
  have hval : ∀ (j : Nat) t v, Try.f5.params[j]? = some t → args[j]? = some v → Value.okWide Try.prog W .any base t v := hval0
  have hW' := hW
  obtain ⟨p, q, hA0, hV, rfl, hfz, hnd⟩ := hW
  have hA : DataW.TrodAll enc Try.prog W 0 (fun _ => true) true Try.f5.params.toList args.toList ds p := hA0
  have hlt : ∀ x ∈ p ++ q, x.block < W.heap.size := fun x hx => hW'.lt x hx
  rw [Try.params5] at hA hval
  have hB := hA
  obtain ⟨v0, vs0, d0, ds0, p0, q0, hargs, rfl, rfl, h0, r0⟩ := trodAll_cons hB
  obtain ⟨v1, vs1, d1, ds1, p1, q1, rfl, rfl, rfl, h1, r1⟩ := trodAll_cons r0
  obtain ⟨rfl, rfl, rfl⟩ := trodAll_nil r1
  obtain rfl : args = #[v0, v1] := by cases args; simp_all
  obtain ⟨rfl, rfl⟩ := trodVars_none hV
  obtain ⟨A0, c0, z0, rfl, lc0, mc0, I0, w0⟩ := view_ints Try.underlying44 Try.underlying22 (by kernel_rfl) (hval 0 44 v0 rfl rfl) h0
  obtain ⟨a1, rfl, rfl, rfl, w1⟩ := open_int Try.underlying3 (hval 1 3 v1 rfl rfl) h1
  clear hA0 hval0
  refine (hashSpreads_walk W A0 _ c0 z0 rfl (Nat.le_trans lc0 mc0) I0 w0 a1 w1).mono fun e W' ⟨he, hx⟩ => ?_
  subst he
  exact ⟨_, rfl, post_ext (pv := []) hW' (fun _ _ _ => (trodAll_cons_mk (shut_bool Try.underlying4 _) trodAll_mk0)) (fun sp hsp => trodAll_stays laid hx _ _ _ _ (readable_of (by kernel_rfl)) hA (fun x hx => hlt x (by first | (simp at hx ⊢; exact hx) | simp at hx)) (fun x hx => hsp x (by first | (simp at hx ⊢; exact hx) | simp at hx))) (fun _ _ => rfl) rfl hx (ok_one (by kernel_rfl) rfl (okWide_bool_mk Try.underlying4 _))⟩

theorem over : Rows.hashSpreadsRow.holds Try.pinned (OpenSpec.ofChange Rows.hashSpreadsSpec) :=
  OpenClaim.holds_of_wide 5 Try.f5 rfl rfl rfl rfl rfl rfl rfl ⟨rfl, rfl, rfl, rfl, rfl⟩ rfl rfl rfl rfl rfl (by kernel_rfl) Try.func5 (by kernel_rfl)
    (of_decide_eq_true (by kernel_rfl)) (by unfold Func.isWrapper; first | (rw [if_pos (by decide +kernel)]; kernel_rfl) | (rw [if_neg (by decide +kernel)]; exact ⟨rfl, rfl⟩))
    (fun os started H enc _ => lifted os started H enc)
end hashSpreads

theorem hashSpreads_holds : Rows.HashSpreadsSaid := hashSpreads.over
#print axioms hashSpreads_holds
end Go.Proofs.Ytfjfeomkmhbpbaa
