/- PdevFences where a line is asked for: the walk. Conditions: those that each theorem names. -/
import Derived.Test.YtibeeobhpdallaaFencesWalk
import Derived.Deep.RegionHeld3
import Derived.IntWalk
namespace Go.Proofs.Ytibeeobhpdallaa
open Go.ChangeShapes Go.WideShapes Go.ChangeAt Go.RowKit
set_option linter.unusedVariables false
set_option maxRecDepth 100000 in
set_option maxHeartbeats 2000000 in
theorem pdevFences_yes (w : World) (A A1 : Option Addr) (N m c n1 c1 ln : Nat) (zs : List Int) (ys : List Act5) (hN : m * 8 = N) (N60 : N ≤ 60) (m0 : 0 < m) (hl : zs.length = N) (hcap : N ≤ c) (hcm : c ≤ 9223372036854775807) (hz : Lim zs 18446744073709551616) (hA : Ints w .u64 A zs)
    (hy : ys.length = n1) (hn1 : n1 ≤ 60) (hc1 : n1 ≤ c1) (hcm1 : c1 ≤ 9223372036854775807) (hY : Acts w A1 ys) (hln : ln < m) :
    Calls Try.prog 6 #[.slice A N c, .slice A1 n1 c1, .int .i64 (ln : Int)] w (fun e w' => e = .returned (.bool true) ∧ Ext w w') := by
  have HO := open_ok w A m c 3 zs (by omega) m0 (by omega) (by omega) hcm hz hA (by decide) (by decide)
  rw [hN] at HO
  have F0 := fine_new m 3 zs
  generalize hs0 : (⟨m, 3, zs, zs, List.replicate m 0, List.replicate 3 []⟩ : DSt) = s0 at *
  have hsn : s0.n = m ∧ s0.T = 3 := by rw [← hs0]; exact ⟨rfl, rfl⟩
  have HS0 := Lib.hid hs0
  clear hs0
  replace HO := Lib.hid HO
  have t1 : decide ((60 : Int) < (N : Int)) = false := by simp; omega
  have t2 : decide ((60 : Int) < (n1 : Int)) = false := by simp; omega
  have t3 : decide ((ln : Int) < 0) = false := by simp
  have t4 : decide ((N : Int) / 8 ≤ (ln : Int)) = false := by simp; omega
  have HFin := Lib.hid (fun i hi => fine_acts s0 ys F0 i hi)
  have HY := Lib.hid hY
  clear hA hY F0 hl
  go_enter Try.func6, Try.ntmps6
  go_wp2_with fail
  refine HO.out.mono ?_
  rintro e w1 ⟨D, rfl, hD, xD⟩
  have a0 : At w w1 D.ptr s0 := At.mk hD xD
  generalize D.ptr = v at a0
  clear hD xD HO
  go_wp2_with fail
  go_loopw [9] (fun i wr => ∃ k : Nat, k ≤ n1 ∧ i = .int .i64 k ∧ At w wr v (s0.acts (ys.take k))) (fun i _ => n1 - (intOf i).toNat)
  case atStart => exact ⟨0, Nat.zero_le _, rfl, a0⟩
  case round =>
    obtain ⟨k, hk, rfl, ak⟩ := hrel
    have xk : Ext w wr := by
      obtain ⟨_, _, _, x, _⟩ := ak
      exact x
    by_cases hlt : k < n1
    · have u1 : decide (k < n1) = true := by simp; omega
      obtain ⟨ad, hA1, _, hac⟩ := HY.out.ext xk (by omega)
      obtain ⟨⟨q0, q1, q2, q3, q4⟩, hx⟩ := hac k (by omega)
      have HD := Lib.hid (do_ok w wr v _ ak k (by omega) (HFin.out k (by omega) (by omega)) (ys.getD k noAct).k (ys.getD k noAct).t (ys.getD k noAct).l (ys.getD k noAct).a (ys.getD k noAct).x hx)
      have HT := Lib.hid (acts_take s0 ys k (by omega))
      clear hac ak hx xk
      generalize hz5 : ys.getD k noAct = z at *
      clear hz5
      subst hA1
      go_wp2_with fail
      refine HD.out.mono ?_
      rintro e w2 ⟨rfl, ak2⟩
      rw [← HT.out] at ak2
      go_wp2_with fail
      go_roundw
      case rel => exact ⟨k + 1, by omega, by go_num, ak2⟩
      case measure => simp [intOf]; omega
    · have u1 : decide (k < n1) = false := by simp; omega
      have ek : ys.take k = ys := List.take_of_length_le (by omega)
      rw [ek] at ak
      have F1 := HFin.out n1 (by omega) (by omega)
      rw [show ys.take n1 = ys from List.take_of_length_le (by omega)] at F1
      have hn := acts_n ys s0
      generalize s0.acts ys = s1 at *
      have F2 := F1.act (by omega) 0 2 (ln : Int) 0 0
      rw [show s1.act 0 2 (ln : Int) 0 0 = s1.flush 2 (ln : Int) from rfl] at F2
      have eF : s1.flush 2 (ln : Int) = { s1 with fl := s1.fl.set 2 (setAdd (s1.fl.getD 2 []) (ln : Int)) } := by
        unfold DSt.flush; rw [if_pos (by omega)]; rfl
      have eE : flushE s1 2 (ln : Int) = 0 := by unfold flushE; rw [if_pos (by omega), if_pos (by omega)]
      have Hf := Lib.hid (ak.flush (by omega) F1 2 (ln : Int))
      rw [eE] at Hf
      clear eE ak
      generalize hs2 : s1.flush 2 (ln : Int) = s2 at *
      have hn2 : s2.n = m ∧ s2.T = 3 := by rw [eF]; exact ⟨hn.1.trans hsn.1, hn.2.trans hsn.2⟩
      have HS2 := Lib.hid eF
      clear eF hs2
      go_wp2_with fail
      refine Hf.out.mono ?_
      rintro e w2 ⟨rfl, b2⟩
      clear Hf
      go_wp2_with fail
      refine (b2.seenA N (by omega)).mono ?_
      rintro e w3 ⟨⟨g3, c3, rfl, k3, j3, I3, x3, l3, r3⟩, _⟩
      have b3 := b2.hold x3 g3 l3 r3
      clear b2 x3 l3 r3
      have Hn := Lib.hid (b3.fenceA (by omega) F2 2)
      have eN : fenceE s2 2 = 0 := by unfold fenceE; rw [if_pos (by omega)]
      rw [eN] at Hn
      have eF3 : s2.fence 2 = { s2.backs (s2.fl.getD 2 []) with fl := s2.fl.set 2 [] } := by unfold DSt.fence; rw [if_pos (by omega)]; rfl
      generalize hs3 : s2.fence 2 = s3 at *
      have hbig2 := b3.big
      have hn3 : s3.n = m ∧ s3.T = 3 := by rw [eF3]; exact ⟨(backs_n _ s2).trans hn2.1, (backs_T _ s2).trans hn2.2⟩
      have hline : lineOf s2.seen ln = lineOf s3.kept ln := by
        rw [eF3]
        refine ((backs_line (s2.fl.getD 2 []) s2 hbig2 (F2.rng 2) ln (by omega)).2 ?_).symm
        rw [HS2.out]
        show (ln : Int) ∈ (s1.fl.set 2 (setAdd (s1.fl.getD 2 []) (ln : Int))).getD 2 []
        have hl2 : 2 < s1.fl.length := by
          obtain ⟨D2, _, hd2, _, _⟩ := b3
          have := hd2.lfl
          rw [HS2.out] at this
          have h2 : (s1.fl.set 2 (setAdd (s1.fl.getD 2 []) (ln : Int))).length = s1.T := this
          rw [List.length_set] at h2
          omega
        rw [List.getD_eq_getElem?_getD, List.getElem?_set_self hl2]
        exact (setAdd_mem _ _ _).2 (Or.inl rfl)
      have hL2 : s2.seen.length = N := by rw [hbig2.s]; omega
      generalize hsl : s2.seen = sL at *
      clear hsl eF3 hs3 eN
      go_wp2_with fail
      refine Hn.out.mono ?_
      rintro e w4 ⟨rfl, b4⟩
      clear Hn b3
      go_wp2_with fail
      refine b4.crash.mono ?_
      rintro e w5 ⟨⟨u5, rfl⟩, b5⟩
      have I5 := ints_held I3 b5 (Or.inr rfl)
      clear b4 I3
      go_wp2_with fail
      refine (b5.seenA N (by show s3.n * 8 = N; omega)).mono ?_
      rintro e w6 ⟨⟨g6, c6, rfl, k6, j6, I6, x6, l6, r6⟩, _⟩
      have b6 := b5.hold x6 g6 l6 r6
      have J6 := I5.ext x6
      clear b5 x6 l6 r6 I5
      go_wp2_with fail
      refine b6.crash.mono ?_
      rintro e w7 ⟨⟨u7, rfl⟩, b7⟩
      have I7 := ints_held I6 b7 (Or.inr rfl)
      have J7 := ints_held J6 b7 (Or.inl (Or.inr rfl))
      clear b6 I6 J6
      rw [show s3.crashed.seen = s3.kept from rfl] at I7
      have hL3 : s3.kept.length = N := by have := b7.big.k; rw [show s3.crashed.crashed.kept = s3.kept from rfl, show s3.crashed.crashed.n = s3.n from rfl] at this; omega
      have HI7 := Lib.hid I7
      have HJ7 := Lib.hid J7
      have Hb := Lib.hid b7
      have Hln := Lib.hid hline
      have HL2 := Lib.hid hL2
      have HL3 := Lib.hid hL3
      clear I7 J7 b7 hline hL2 hL3 HS2 HFin HY F1 F2 hbig2 HS0
      have x7 : Ext w w7 := by
        obtain ⟨_, _, _, x, _⟩ := Hb.out
        exact x
      unfold maxLen at j3 j6
      go_wp2_with fail
      obtain ⟨q, hq⟩ : ∃ q : Nat, 8 * ln = q := ⟨_, rfl⟩
      obtain ⟨r, hr⟩ : ∃ r : Nat, q + 8 = r := ⟨_, rfl⟩
      have Hq := Lib.hid hq
      have b1 : (r : Int) ≤ (c3 : Int) := by omega
      have b2 : (r : Int) ≤ (c6 : Int) := by omega
      have b3 : (q : Int) ≤ (r : Int) := by omega
      have b4 : (0 : Int) ≤ (q : Int) := by omega
      have b5 : (0 : Int) ≤ (r : Int) := by omega
      have b6 : q ≤ r := by omega
      have b7 : r ≤ c3 := by omega
      have b8 : r ≤ c6 := by omega
      have b9 : q < c3 := by omega
      have b10 : q < c6 := by omega
      have b11 : ¬ c3 = q := by omega
      have b12 : ¬ c6 = q := by omega
      have b13 : ¬ c3 - q = 0 := by omega
      have b14 : ¬ c6 - q = 0 := by omega
      have b15 : ¬ c3 ≤ q := by omega
      have b16 : ¬ c6 ≤ q := by omega
      have hwq : IntKind.i64.wrap (q : Int) = (q : Int) := IntWalk.i64_in _ (by omega)
      have hwr : IntKind.i64.wrap (r : Int) = (r : Int) := IntWalk.i64_in _ (by omega)
      have e1 : 8 * (ln : Int) = (q : Int) := by omega
      have e2 : (q : Int) + 8 = (r : Int) := by omega
      have e3 : r - q = 8 := by omega
      clear hq hr
      have H1 : Hid (∀ W, Ext w7 W → Calls Try.prog 18 #[.slice (some ⟨g3, q, none⟩) 8 (c3 - q), .slice (some ⟨g6, q, none⟩) 8 (c6 - q)] W fun e w' => e = .returned (.bool true) ∧ Ext W w') := Lib.hid (fun W x => by
        have p1 := (HJ7.out.ext x).part q 8 (by rw [HL2.out]; omega) (by omega)
        have p2 := (HI7.out.ext x).part q 8 (by rw [HL3.out]; omega) (by omega)
        rw [at0] at p1 p2
        have hl := Hln.out
        unfold lineOf at hl
        rw [show ln * 8 = q by have := Hq.out; omega] at hl
        exact same_n _ _ 8 8 _ _ _ _ true W (by rw [List.length_take, List.length_drop, HL2.out]; omega) (by rw [List.length_take, List.length_drop, HL3.out]; omega) (by omega) (by rw [hl]; simp) p1 p2)
      have HP : Hid (∀ W, Ext w7 W → Calls Try.prog 22 #[v, .int .i64 2] W fun e w' => ∃ A c, e = .returned (.slice A 0 c) ∧ Ext W w') := Lib.hid (fun W x => by
        obtain ⟨D, hv, hd, _, _⟩ := Hb.out.ext x
        have e0 : s3.crashed.crashed.fl.getD 2 [] = [] := by
          show (List.replicate s3.T []).getD 2 [] = []
          rw [List.getD_eq_getElem?_getD, List.getElem?_replicate]
          split <;> rfl
        have hp := pending_ok _ W D _ hd 2 (by show 2 < s3.T; omega) (by rw [e0]; simp)
        rw [e0] at hp
        rw [hv]
        refine hp.mono fun e w' hr => ?_
        obtain ⟨u, rfl, hr, x'⟩ := hr
        obtain ⟨A, c, hu, _⟩ := hr.form
        exact ⟨A, c, by rw [hu]; rfl, x'⟩)
      have HSn : Hid (∀ W, Ext w7 W → Calls Try.prog 16 #[v] W fun e w' => Words W N s3.kept e w') := Lib.hid (fun W x => ((Hb.out.ext x).seenA N (by show s3.n * 8 = N; omega)).mono fun e w' hh => hh.1)
      have HKp : Hid (∀ W, Ext w7 W → Calls Try.prog 17 #[v] W fun e w' => Words W N s3.kept e w') := Lib.hid (fun W x => ((Hb.out.ext x).keptA N (by show s3.n * 8 = N; omega)).mono fun e w' hh => hh.1)
      have xt : Ext w7 w7.drew := (Ext.refl w7).drew
      clear Hln HJ7 Hb HL2 hn3 hn2 hsn
      go_region_held3 (fun _ => True) (exact trivial) (first
        | (go_at_call 7; refine (awake4_of _).mono ?_; rintro e w8 ⟨rfl, x8⟩; replace xt := xt.trans x8; clear x8)
        | (go_at_call_of 18 (Value.slice (some ⟨g3, q, none⟩) 8 (c3 - q)); refine (H1.out _ xt).mono ?_; rintro e w9 ⟨rfl, x9⟩; replace xt := xt.trans x9; clear x9)
        | (go_at_call 16; refine (HSn.out _ xt).mono ?_; rintro e w10 ⟨g10, c10, rfl, k10, j10, I10, x10, l10, r10⟩; replace xt := xt.trans x10; have I10h := Lib.hid I10; clear I10 x10 l10 r10)
        | (go_at_call 17; refine (HKp.out _ xt).mono ?_; rintro e w12 ⟨g12, c12, rfl, k12, j12, I12, x12, l12, r12⟩; replace xt := xt.trans x12; have I12h := Lib.hid I12; clear I12 x12 l12 r12)
        | (go_at_call 18; refine (same_n _ _ N N _ _ s3.kept s3.kept true _ HL3.out HL3.out (by omega) (by simp) I12h.out (HI7.out.ext xt)).mono ?_; rintro e w13 ⟨rfl, x13⟩; replace xt := xt.trans x13; clear x13)
        | (go_at_call 18; refine (same_n _ _ N N _ _ s3.kept s3.kept true _ HL3.out HL3.out (by omega) (by simp) I10h.out (HI7.out.ext xt)).mono ?_; rintro e w11 ⟨rfl, x11⟩; replace xt := xt.trans x11; clear x11)
        | (go_at_call 22; refine (HP.out _ xt).mono ?_; rintro e w14 ⟨A14, c14, rfl, x14⟩; replace xt := xt.trans x14; clear x14))
      all_goals
        go_wp2_with fail
        go_ret
        exact ⟨rfl, x7.trans xt⟩
end Go.Proofs.Ytibeeobhpdallaa
