/- To look is no access: what is at any word is told, and the clock stays: the law answers true for every input, and changes nothing. Conditions: none. -/
import Derived.Test.YtcelhllhdkminaaMMem
namespace Go.Proofs.Ytcelhllhdkminaa
open Go.ChangeShapes Go.WideShapes Go.ChangeAt Go.RowKit
set_option linter.unusedVariables false
theorem writes_no (B : Nat) (w : World) (D : DevB) (s : DSt) (h : IsDev B w D s) (at_ : Int) (ha : at_ < 0 ∨ (s.n : Int) ≤ at_) :
    Calls Try.prog 55 #[D.ptr, .int .i64 at_] w fun e w' => e = .returned (.int .i64 0) ∧ w = w' := by
  unfold DevB.ptr
  have HC : Hid (Calls Try.prog 82 #[.pointer (some ⟨D.gd, 0, none⟩), .int .i64 at_] w fun e w' => e = .returned (.int .i64 5) ∧ w = w') := by
    rcases ha with ha | ha
    · exact Lib.hid (askL_lo _ _ _ _ at_ ha w h.n1 h.c0)
    · exact Lib.hid (askL_hi _ _ _ _ at_ (by omega) w h.n1 h.c0)
  clear ha
  go_enter Try.func55, Try.ntmps55
  go_wp2_with fail
  refine HC.out.mono ?_
  rintro e w' ⟨rfl, rfl⟩
  go_wp2_with fail
  go_ret
  exact ⟨rfl, rfl⟩
/-- How often a word's line was written back. -/
def writesV (s : DSt) (a : Int) : Int := if 0 ≤ a ∧ a < (s.n : Int) * 8 then s.writes.getD (a / 8).toNat 0 else 0
section
variable {Q : Nat → Prop} {wb w0 w : World} {gm : Nat} {dv pv v : Value} {s : MSt}
theorem AtQ.writesAny {s : DSt} (h : AtQ Q wb w0 w v s) (a : Int) : Calls Try.prog 55 #[v, .int .i64 (lineNo a)] w fun e w' => e = .returned (.int .i64 (writesV s a)) ∧ w = w' := by
  obtain ⟨D, rfl, h, ext, hQ⟩ := h
  unfold lineNo writesV
  by_cases ha : 0 ≤ a ∧ a < (s.n : Int) * 8
  · rw [if_neg (by omega), if_pos ha]
    obtain ⟨q, hq⟩ := Int.eq_ofNat_of_zero_le (show 0 ≤ a / 8 by omega)
    rw [hq]
    exact writes_ok _ _ _ _ h q (by omega)
  · rw [if_neg ha]
    by_cases hn : a < 0
    · rw [if_pos hn]
      exact writes_no _ _ _ _ h _ (by omega)
    · rw [if_neg hn]
      exact writes_no _ _ _ _ h _ (by omega)
set_option maxRecDepth 100000 in
set_option maxHeartbeats 1000000 in
theorem memWrites_ok (h : IsMem Q wb w0 w gm dv pv s) (a : Int) (h1 : a < 9223372036854775808) : Calls Try.prog 18 #[.pointer (some ⟨gm, 0, none⟩), .int .i64 a] w fun e w' => e = .returned (.int .i64 (writesV s.dev a)) ∧ Ext w w' := by
  have c0 : w.cell? ⟨gm, 0, none⟩ = some dv := h.blk.cell 0
  have HL := Lib.hid (fun W => lineOf_any a W h1)
  have HWr := Lib.hid (fun (W : World) (x : Ext w W) => (h.ext x).dev.writesAny a)
  have xt : Ext w w.drew := (Ext.refl w).drew
  clear h
  generalize writesV s.dev a = y at *
  generalize lineNo a = l at *
  go_enter Try.func18, Try.ntmps18
  go_wp2_with fail
  go_region_with (first
    | (go_at_call 56; refine (HL.out _).mono ?_; rintro e w' ⟨rfl, rfl⟩)
    | (go_at_call 55; refine (HWr.out _ xt).mono ?_; rintro e w' ⟨rfl, rfl⟩))
  all_goals
    go_wp2_with fail
    go_ret
    exact ⟨rfl, xt⟩
end
theorem act_dn (s : MSt) (k t a z x : Int) : (s.act k t a z x).dev.n = s.dev.n := by
  have hp : (s.put a x).dev.n = s.dev.n := by
    unfold MSt.put
    split
    · exact (act_n s.dev 5 0 0 a x).1
    · rfl
  unfold MSt.act
  split
  · unfold MSt.load; split <;> rfl
  split
  · unfold MSt.store; split
    · exact hp
    · rfl
  split
  · unfold MSt.swap; split
    · split
      · exact hp
      · rfl
    · rfl
  split
  · exact (act_n s.dev 0 t (lineNo a) 0 0).1
  split
  · exact (act_n s.dev 1 t 0 0 0).1
  split
  · exact (act_n s.dev 2 0 a 0 0).1
  · exact (act_n s.dev 3 0 0 0 0).1
set_option maxRecDepth 100000 in
set_option maxHeartbeats 2000000 in
theorem peeks7_long (w : World) (A A1 : Option Addr) (N c n1 c1 : Nat) (T : Int) (h : 60 < N ∨ 20 < n1) (hN : N ≤ 9223372036854775807) (h1 : n1 ≤ 9223372036854775807) : Calls Try.prog 4 #[.slice A N c, .slice A1 n1 c1, .int .i64 T] w (fun e w' => e = .returned (.bool true) ∧ Ext w w') := by
  by_cases h60 : 60 < N
  · have u1 : decide (60 < N) = true := by simp; omega
    clear h
    go_enter Try.func4, Try.ntmps4
    go_wp2_with fail
    refine (awake7_of _).mono ?_
    rintro e w1 ⟨rfl, x1⟩
    have X := Lib.hid x1
    clear x1
    go_wp2_with fail
    go_ret
    exact ⟨rfl, X.out⟩
  · have u1 : decide (60 < N) = false := by simp; omega
    have u2 : decide (20 < n1) = true := by simp; omega
    have u3 : ¬ (n1 : Int) ≤ 20 := by omega
    have u4 : (20 : Int) < (n1 : Int) := by omega
    have u5 : ¬ (60 : Int) < (N : Int) := by omega
    clear h
    go_enter Try.func4, Try.ntmps4
    go_wp2_with fail
    refine (awake7_of _).mono ?_
    rintro e w1 ⟨rfl, x1⟩
    have X := Lib.hid x1
    clear x1
    go_wp2_with fail
    go_ret
    exact ⟨rfl, X.out⟩
set_option maxRecDepth 100000 in
set_option maxHeartbeats 2000000 in
theorem peeks7_err (w : World) (A A1 : Option Addr) (N c n1 c1 : Nat) (T : Int) (hN : N ≤ 60) (h1 : n1 ≤ 20) (h : N % 8 ≠ 0 ∨ N = 0) : Calls Try.prog 4 #[.slice A N c, .slice A1 n1 c1, .int .i64 T] w (fun e w' => e = .returned (.bool true) ∧ Ext w w') := by
  have HO := Lib.hid (both_no w A N c 5 hN h)
  have HM : Hid (∀ W, Calls Try.prog 11 #[.int .i64 (N : Int), .int .i64 3] W fun e w' => e = .returned (.int .i64 3) ∧ W = w') := Lib.hid (fun W => by
    by_cases h0 : N = 0
    · subst h0
      exact mayOpen_none 3 (by decide) (by decide) W
    · exact mayOpen_form N 3 (by decide) (by decide) (by omega) (by omega) W)
  unfold NoBoth at HO
  clear h
  have u1 : decide (60 < N) = false := by simp; omega
  have u2 : decide (20 < n1) = false := by simp; omega
  go_enter Try.func4, Try.ntmps4
  go_wp2_with fail
  refine HO.out.mono ?_
  rintro e w' ⟨rfl, rfl⟩
  go_wp2_with fail
  refine (awake7_of _).mono ?_
  rintro e w2 ⟨rfl, x2⟩
  have X := Lib.hid x2
  clear x2
  go_wp2_with fail
  go_ret
  exact ⟨rfl, X.out⟩
set_option maxRecDepth 100000 in
set_option maxHeartbeats 2000000 in
theorem peeks7_yes (w : World) (A A1 : Option Addr) (N m c n1 c1 : Nat) (a : Int) (h0 : -9223372036854775808 ≤ a) (h1 : a < 9223372036854775808) (zs : List Int) (ys : List Act7) (hN : m * 8 = N) (N2 : N ≤ 60) (m0 : 0 < m) (hl : zs.length = N) (hcap : N ≤ c) (hcm : c ≤ 9223372036854775807) (hz : Lim zs 18446744073709551616) (hA : Ints w .u64 A zs) (hy : ys.length = n1) (hn1 : n1 ≤ 20) (hY : Acts7 w A1 ys) : Calls Try.prog 4 #[.slice A N c, .slice A1 n1 c1, .int .i64 a] w (fun e w' => e = .returned (.bool true) ∧ Ext w w') := by
  have HB := Lib.hid (both_ok w A N m c 5 zs hN N2 m0 hl hcap hcm hz hA (by decide))
  have HY := Lib.hid hY
  have HW0 : Hid (Well 0 (MSt.new (DSt.new m 3 zs) 5)) := Lib.hid ⟨fine_new m 3 zs, Int.le_refl 0, Int.le_refl 0, Int.le_refl 0, Int.le_refl 0⟩
  have HN := Lib.hid hN
  clear hz hl hA hN hY
  have u1 : decide (60 < N) = false := by simp; omega
  have u2 : decide (20 < n1) = false := by simp; omega
  go_enter Try.func4, Try.ntmps4
  go_wp2_with fail
  refine HB.out.mono ?_
  rintro e w1 ⟨gm, dv, pv, g, R, rv, rfl, b1⟩
  have B1 := Lib.hid b1
  clear b1 HB
  go_wp2_with fail
  go_loopw [10] (fun i wr => ∃ (k : Nat) (s : MSt), k ≤ n1 ∧ i = .int .i64 k ∧ BothAt w wr gm dv pv g R rv s ∧ Well k s ∧ s.dev.n = m) (fun i _ => n1 - (intOf i).toNat)
  case atStart => exact ⟨0, _, Nat.zero_le _, rfl, B1.out, HW0.out, rfl⟩
  case round =>
    clear B1 HW0
    obtain ⟨k, s, hk, rfl, bk, wk, nk⟩ := hrel
    have NK := Lib.hid nk
    clear nk
    have BK := Lib.hid bk
    have WK := Lib.hid wk
    clear bk wk
    by_cases hlt : k < n1
    · have v1 : decide (k < n1) = true := by simp; omega
      obtain ⟨ad, hA1, _, hac⟩ := HY.out.ext BK.out.mem.lt.1 (by omega)
      obtain ⟨⟨q0, q1, q2, q3, q4⟩, hx⟩ := hac k (by omega)
      have HD := Lib.hid (do7_ok BK.out.mem (i := k) (by omega) WK.out.fine (WK.out.calm (by omega)) (ys.getD k noAct7).k (ys.getD k noAct7).t (ys.getD k noAct7).a (ys.getD k noAct7).z (ys.getD k noAct7).x hx.1 hx.2.1 hx.2.2)
      have HQ : Hid (∀ W, Ext w W → (ys.getD k noAct7).at W (ad.add (k * 5))) := Lib.hid (fun W x => by
        obtain ⟨ad', hA1', _, hac'⟩ := HY.out.ext x (by omega)
        have : ad = ad' := by rw [hA1] at hA1'; injection hA1'
        subst this
        exact (hac' k (by omega)).1)
      have HFx := Lib.hid hx
      have HFn := Lib.hid (WK.out.act (by omega) (ys.getD k noAct7).k (ys.getD k noAct7).t (ys.getD k noAct7).a (ys.getD k noAct7).z (ys.getD k noAct7).x)
      clear hac hx
      generalize hz5 : ys.getD k noAct7 = z at *
      clear hz5
      subst hA1
      go_wp2_with fail
      refine HD.out.mono ?_
      rintro e w3 ⟨⟨u, rfl⟩, m3⟩
      have M3 := Lib.hid m3
      have R3 := Lib.hid (BK.out.ref.heldQ (w' := w3) (fun b hb => m3.keptQ b hb))
      have HMU := Lib.hid (must7_ok R3.out BK.out.sound (i := k) (by omega) WK.out.fine (WK.out.calm (by omega)) z.k z.t z.a z.z z.x HFx.out.1 HFx.out.2.1)
      clear m3 BK HD q0 q1 q2 q3 q4
      obtain ⟨q0, q1, q2, q3, q4⟩ := HQ.out w3 M3.out.lt.1
      go_wp2_with fail
      refine HMU.out.mono ?_
      rintro e w4 ⟨⟨u', rfl⟩, r4, f4⟩
      have B4 : Hid (BothAt w w4 gm dv pv g R rv (s.act z.k z.t z.a z.z z.x)) := Lib.hid ⟨M3.out.afterRef f4 (fun b hb => (R3.out.foot_lt hb).1), r4⟩
      clear r4 f4 HMU q0 q1 q2 q3 q4 M3 R3 HQ
      have N4 := Lib.hid ((act_dn s z.k z.t z.a z.z z.x).trans NK.out)
      generalize s.act z.k z.t z.a z.z z.x = s4 at *
      go_wp2_with fail
      go_roundw
      case rel => exact ⟨k + 1, _, by omega, by go_num, B4.out, HFn.out, N4.out⟩
      case measure => simp [intOf]; omega
    · have v1 : decide (k < n1) = false := by simp; omega
      have HCl := Lib.hid (memClock_ok BK.out.mem)
      have HP1 := Lib.hid (BK.out.mem.peek a h0 h1)
      have HP2 := Lib.hid (refPeek_ok BK.out.ref BK.out.sound a h0 h1)
      obtain ⟨ck, hck0⟩ : ∃ ck, s.clock = ck := ⟨_, rfl⟩
      have HCK := Lib.hid hck0
      rw [hck0] at HCl
      clear hck0
      generalize peekV s a = pvv at HP1 HP2
      generalize peekB s a = pbb at HP1 HP2
      by_cases ha : 0 ≤ a ∧ a < (N : Int)
      · have c0 : wr.cell? ⟨g, 0, none⟩ = some (.pointer (some ⟨R.g, 0, none⟩)) := BK.out.ref.blk.cell 0
        have c2 : wr.cell? ⟨R.g, 2, none⟩ = some (.slice (some ⟨R.gw, 0, none⟩) m m) := by rw [← NK.out]; exact BK.out.ref.dev.is.blk.cell 2
        obtain ⟨p, rfl⟩ := Int.eq_ofNat_of_zero_le ha.1
        obtain ⟨q, hq⟩ : ∃ q : Nat, p / 8 = q := ⟨_, rfl⟩
        have hN8 := HN.out
        have hqm : q < m := by omega
        have t1 : (p : Int).tdiv 8 = (q : Int) := by rw [Int.tdiv_eq_ediv_of_nonneg (by omega)]; omega
        have t2 : (p : Int) / 8 = (q : Int) := by omega
        have cw : wr.cell? ⟨R.gw, q, none⟩ = some (.int .i64 (s.dev.writes.getD q 0)) := by
          have hh := BK.out.ref.dev.is
          have h2 := RowN.of_row hh.writes
          rw [hh.wlen, NK.out] at h2
          exact h2.cell (by omega)
        have HWV : Hid (writesV s.dev (p : Int) = s.dev.writes.getD q 0) := Lib.hid (by
          unfold writesV
          rw [NK.out, if_pos (by omega), t2]
          rfl)
        generalize s.dev.writes.getD q 0 = wv at *
        have p1 : decide (p < N) = true := by simp; omega
        have p2 : (0 : Int) ≤ (p : Int) := by omega
        have p3 : decide (q < m) = true := by simp; omega
        have p4 : (p : Int) < (N : Int) := ha.2
        have q2 : (q : Int) < 9223372036854775808 := by omega
        have q3 : -9223372036854775808 ≤ (q : Int) := by omega
        generalize R.g = rg at c0 c2
        generalize R.gw = rgw at c2 cw
        clear hN8 hq ha
        go_wp2_with fail
        refine HCl.out.mono ?_
        rintro e w' ⟨rfl, rfl⟩
        go_wp2_with fail
        refine HP1.out.mono ?_
        rintro e w' ⟨rfl, rfl⟩
        go_wp2_with fail
        refine HP2.out.mono ?_
        rintro e w' ⟨rfl, rfl⟩
        go_wp2_with fail
        clear c0 c2 cw
        refine (awake7_of _).mono ?_
        rintro e w3 ⟨rfl, x3⟩
        have B3 := Lib.hid (BK.out.ext x3)
        clear x3 HCl HP1 HP2
        have hck := memClock_ok B3.out.mem
        rw [HCK.out] at hck
        have HC3 := Lib.hid hck
        clear hck
        go_wp2_with fail
        refine HC3.out.mono ?_
        rintro e w' ⟨rfl, rfl⟩
        have hwv := memWrites_ok B3.out.mem (p : Int) h1
        rw [HWV.out] at hwv
        have HW3 := Lib.hid hwv
        clear hwv HC3
        go_wp2_with fail
        refine HW3.out.mono ?_
        rintro e w4 ⟨rfl, x4⟩
        have B4 := Lib.hid (B3.out.ext x4)
        have HSm := Lib.hid (same7_ok B4.out.mem B4.out.ref B4.out.sound)
        clear x4 HW3
        go_wp2_with fail
        refine HSm.out.mono ?_
        rintro e w5 ⟨rfl, x5⟩
        have X := Lib.hid (B4.out.mem.lt.1.trans x5)
        clear x5
        go_wp2_with fail
        go_ret
        exact ⟨rfl, X.out⟩
      · have HWV : Hid (writesV s.dev a = 0) := Lib.hid (by
          unfold writesV
          have := HN.out
          have := NK.out
          rw [if_neg (by omega)])
        by_cases hn : 0 ≤ a
        · have p1 : ¬ a < (N : Int) := by omega
          have p2 : decide (a < (N : Int)) = false := by simp; omega
          have p3 : decide (0 ≤ a) = true := by simp; omega
          clear ha
          go_wp2_with fail
          refine HCl.out.mono ?_
          rintro e w' ⟨rfl, rfl⟩
          go_wp2_with fail
          refine HP1.out.mono ?_
          rintro e w' ⟨rfl, rfl⟩
          go_wp2_with fail
          refine HP2.out.mono ?_
          rintro e w' ⟨rfl, rfl⟩
          go_wp2_with fail
          refine (awake7_of _).mono ?_
          rintro e w3 ⟨rfl, x3⟩
          have B3 := Lib.hid (BK.out.ext x3)
          clear x3 HCl HP1 HP2
          have hck := memClock_ok B3.out.mem
          rw [HCK.out] at hck
          have HC3 := Lib.hid hck
          clear hck
          go_wp2_with fail
          refine HC3.out.mono ?_
          rintro e w' ⟨rfl, rfl⟩
          have hwv := memWrites_ok B3.out.mem a h1
          rw [HWV.out] at hwv
          have HW3 := Lib.hid hwv
          clear hwv HC3
          go_wp2_with fail
          refine HW3.out.mono ?_
          rintro e w4 ⟨rfl, x4⟩
          have B4 := Lib.hid (B3.out.ext x4)
          have HSm := Lib.hid (same7_ok B4.out.mem B4.out.ref B4.out.sound)
          clear x4 HW3
          go_wp2_with fail
          refine HSm.out.mono ?_
          rintro e w5 ⟨rfl, x5⟩
          have X := Lib.hid (B4.out.mem.lt.1.trans x5)
          clear x5
          go_wp2_with fail
          go_ret
          exact ⟨rfl, X.out⟩
        · have p3 : decide (0 ≤ a) = false := by simp; omega
          clear ha
          go_wp2_with fail
          refine HCl.out.mono ?_
          rintro e w' ⟨rfl, rfl⟩
          go_wp2_with fail
          refine HP1.out.mono ?_
          rintro e w' ⟨rfl, rfl⟩
          go_wp2_with fail
          refine HP2.out.mono ?_
          rintro e w' ⟨rfl, rfl⟩
          go_wp2_with fail
          refine (awake7_of _).mono ?_
          rintro e w3 ⟨rfl, x3⟩
          have B3 := Lib.hid (BK.out.ext x3)
          clear x3 HCl HP1 HP2
          have hck := memClock_ok B3.out.mem
          rw [HCK.out] at hck
          have HC3 := Lib.hid hck
          clear hck
          go_wp2_with fail
          refine HC3.out.mono ?_
          rintro e w' ⟨rfl, rfl⟩
          have hwv := memWrites_ok B3.out.mem a h1
          rw [HWV.out] at hwv
          have HW3 := Lib.hid hwv
          clear hwv HC3
          go_wp2_with fail
          refine HW3.out.mono ?_
          rintro e w4 ⟨rfl, x4⟩
          have B4 := Lib.hid (B3.out.ext x4)
          have HSm := Lib.hid (same7_ok B4.out.mem B4.out.ref B4.out.sound)
          clear x4 HW3
          go_wp2_with fail
          refine HSm.out.mono ?_
          rintro e w5 ⟨rfl, x5⟩
          have X := Lib.hid (B4.out.mem.lt.1.trans x5)
          clear x5
          go_wp2_with fail
          go_ret
          exact ⟨rfl, X.out⟩
theorem pmemPeeks_walk (w : World) (A A1 : Option Addr) (c n1 c1 : Nat) (T : Int) (h0 : -9223372036854775808 ≤ T) (h1 : T < 9223372036854775808) (zs : List Int) (ys : List Act7) (hcap : zs.length ≤ c) (hcm : c ≤ maxLen) (hz : Lim zs 18446744073709551616) (hA : Ints w .u64 A zs) (hy : ys.length = n1) (hc1 : n1 ≤ c1) (hcm1 : c1 ≤ maxLen) (hY : Acts7 w A1 ys) : Calls Try.prog 4 #[.slice A zs.length c, .slice A1 n1 c1, .int .i64 T] w (fun e w' => e = .returned (.bool true) ∧ Ext w w') := by
  unfold maxLen at hcm hcm1
  by_cases hlong : 60 < zs.length ∨ 20 < n1
  · exact peeks7_long w A A1 _ c n1 c1 T hlong (by omega) (by omega)
  by_cases h8 : zs.length % 8 ≠ 0 ∨ zs.length = 0
  · exact peeks7_err w A A1 _ c n1 c1 T (by omega) (by omega) h8
  exact peeks7_yes w A A1 _ (zs.length / 8) c n1 c1 T h0 h1 zs ys (by omega) (by omega) (by omega) rfl hcap (by omega) hz hA hy (by omega) hY

namespace pmemPeeks
set_option maxRecDepth 100000 in
theorem lifted (os : Os) (started : os.Started) (H : Type) (enc : TypeId × Value → H) :
    ReturnsInHanded {} Try.checked os 4 .any (Rows.pmemPeeksSpec.pre6 enc Try.prog Try.f4 Rows.pmemPeeksRow.domain false) (Rows.pmemPeeksSpec.post enc Try.prog Try.f4 false true false false) := by
  refine returnsInHanded_of_change (C := Try.checked) own started (by kernel_rfl) Try.func4
    (ChangeSpec.witness6 (enc := enc) (C := Try.checked) false ⟨#[], #[.slice none 0 0, .slice none 0 0, .int .i64 0], []⟩ 8 (by kernel_rfl) (by kernel_rfl) (by kernel_rfl) (by kernel_rfl)) ?_
  intro W base args ds gs before hval0 hW hcnd _
  have hval : ∀ (j : Nat) t v, Try.f4.params[j]? = some t → args[j]? = some v → Value.okWide Try.prog W .any base t v := hval0
  have hW' := hW
  obtain ⟨p, q, hA0, hV, rfl, hfz, hnd⟩ := hW
  have hA : DataW.TrodAll enc Try.prog W 0 (fun _ => true) true Try.f4.params.toList args.toList ds p := hA0
  have hlt : ∀ x ∈ p ++ q, x.block < W.heap.size := fun x hx => hW'.lt x hx
  rw [Try.params4] at hA hval
  have hB := hA
  obtain ⟨v0, vs0, d0, ds0, p0, q0, hargs, rfl, rfl, h0, r0⟩ := trodAll_cons hB
  obtain ⟨v1, vs1, d1, ds1, p1, q1, rfl, rfl, rfl, h1, r1⟩ := trodAll_cons r0
  obtain ⟨v2, vs2, d2, ds2, p2, q2, rfl, rfl, rfl, h2, r2⟩ := trodAll_cons r1
  obtain ⟨rfl, rfl, rfl⟩ := trodAll_nil r2
  obtain rfl : args = #[v0, v1, v2] := by cases args; simp_all
  obtain ⟨rfl, rfl⟩ := trodVars_none hV
  obtain ⟨A0, c0, z0, rfl, lc0, mc0, I0, w0⟩ := view_ints Try.underlying22 Try.underlying31 (by kernel_rfl) (hval 0 22 v0 rfl rfl) h0
  obtain ⟨a1, rfl, rfl, rfl, w1⟩ := open_int Try.underlying3 (hval 2 3 v2 rfl rfl) h2
  obtain ⟨A2, n2, c2, y2, rfl, lc2, mc2, zl2, I2⟩ := view_acts7 Try.underlying23 Try.underlying33 (by kernel_rfl) (by kernel_rfl) Try.underlying3 Try.underlying3 Try.underlying3 Try.underlying31 Try.underlying31 (hval 1 23 v1 rfl rfl) h1
  clear hA0 hval0
  refine (pmemPeeks_walk W A0 A2 c0 n2 c2 a1 (wf_i64 w1).1 (wf_i64 w1).2 z0 y2 lc0 mc0 (lim_u64 w0) I0 zl2 lc2 mc2 I2).mono fun e W' ⟨he, hx⟩ => ?_
  subst he
  exact ⟨_, rfl, post_ext (pv := []) hW' (fun _ _ _ => (trodAll_cons_mk (shut_bool Try.underlying4 _) trodAll_mk0)) (fun sp hsp => trodAll_stays laid hx _ _ _ _ (readable_of (by kernel_rfl)) hA (fun x hx => hlt x (by first | (simp at hx ⊢; exact hx) | simp at hx)) (fun x hx => hsp x (by first | (simp at hx ⊢; exact hx) | simp at hx))) (fun _ _ => rfl) rfl hx (ok_one (by kernel_rfl) rfl (okWide_bool_mk Try.underlying4 _))⟩

theorem over : Rows.pmemPeeksRow.holds Try.pinned (OpenSpec.ofChange Rows.pmemPeeksSpec) :=
  OpenClaim.holds_of_wide 4 Try.f4 rfl rfl rfl rfl rfl rfl rfl ⟨rfl, rfl, rfl, rfl, rfl⟩ rfl rfl rfl rfl rfl (by kernel_rfl) Try.func4 (by kernel_rfl)
    (of_decide_eq_true (by kernel_rfl)) (by unfold Func.isWrapper; first | (rw [if_pos (by decide +kernel)]; kernel_rfl) | (rw [if_neg (by decide +kernel)]; exact ⟨rfl, rfl⟩))
    (fun os started H enc _ => lifted os started H enc)
end pmemPeeks

theorem pmemPeeks_holds : Rows.PmemPeeksSaid := pmemPeeks.over
#print axioms pmemPeeks_holds
end Go.Proofs.Ytcelhllhdkminaa
