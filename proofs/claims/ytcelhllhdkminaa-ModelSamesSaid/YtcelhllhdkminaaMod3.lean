/- Layer 8: slices.Equal; which states are alike. Conditions: those that each theorem names. -/
import Derived.Test.YtcelhllhdkminaaMod2
namespace Go.Proofs.Ytcelhllhdkminaa
open Go.ChangeShapes Go.WideShapes Go.ChangeAt Go.RowKit
set_option linter.unusedVariables false
theorem extN (w : World) (n : Nat) : Ext w (w.drewN n) := ⟨rfl, rfl, rfl, Nat.le_refl _, fun _ _ => rfl⟩
theorem eq_getD {α : Type} {d : α} : ∀ {xs ys : List α}, xs.length = ys.length → (∀ j, j < xs.length → xs.getD j d = ys.getD j d) → xs = ys
  | [], [], _, _ => rfl
  | [], _ :: _, h, _ => by simp at h
  | _ :: _, [], h, _ => by simp at h
  | x :: xs, y :: ys, h, hj => by
    have h0 : x = y := hj 0 (by simp)
    rw [h0, eq_getD (by simpa using h) (fun j hl => hj (j + 1) (by simpa using hl))]
set_option maxRecDepth 100000 in
set_option maxHeartbeats 1000000 in
theorem eq_pr (a b a' b' : Int) (w : World) :
    (Op.equalIn 10000 104 (.agg #[.int .u32 a, .int .u32 b]) (.agg #[.int .u32 a', .int .u32 b'])).run Try.prog w = .ok (decide ((a, b) = (a', b'))) w := by
  have u3 := Try.underlying60
  have a3 := Try.isAgg60
  have z3 := Try.sizeOf60
  rw [show (10000 : Nat) = 9999 + 1 from rfl, run_equalIn_struct _ _ _ _ _ (by kernel_rfl) (by kernel_rfl)]
  simp only [Program.fieldsOf, Try.underlying104]
  go_simp
  by_cases h1 : a = a'
  · by_cases h2 : b = b' <;> simp [h1, h2]
  · simp [h1]
theorem pr_yes (a b : Int) (w : World) : (Op.equalIn 10000 104 (.agg #[.int .u32 a, .int .u32 b]) (.agg #[.int .u32 a, .int .u32 b])).run Try.prog w = .ok true w := by rw [eq_pr]; simp
theorem pr_no {a b a' b' : Int} (h : ¬ (a, b) = (a', b')) (w : World) : (Op.equalIn 10000 104 (.agg #[.int .u32 a, .int .u32 b]) (.agg #[.int .u32 a', .int .u32 b'])).run Try.prog w = .ok false w := by rw [eq_pr, decide_eq_false h]
set_option maxRecDepth 100000 in
set_option maxHeartbeats 1000000 in
theorem eq32_ok (w : World) (A A' : Option Addr) (n n' c c' : Nat) (xs ys : List Int) (hl : xs.length = n) (hl' : ys.length = n') (hn : n ≤ 1000000) (hn' : n' ≤ 1000000) (hA : Ints w .u32 A xs) (hA' : Ints w .u32 A' ys) :
    Calls Try.prog 65 #[.slice A n c, .slice A' n' c'] w fun e w' => e = .returned (.bool (decide (xs = ys))) ∧ Ext w w' := by
  have HA := Lib.hid hA
  have HA' := Lib.hid hA'
  have HL := Lib.hid hl
  have HL' := Lib.hid hl'
  clear hA hA' hl hl'
  by_cases hnn : n = n'
  · subst hnn
    have t0 : ((n : Int) != (n : Int)) = false := by simp
    go_enter Try.func65, Try.ntmps65
    go_wp2_with fail
    go_loopw [13] (fun i wr => ∃ k : Nat, k ≤ n ∧ i = .int .i64 k ∧ Ext w wr ∧ ∀ j, j < k → xs.getD j 0 = ys.getD j 0) (fun i _ => n - (intOf i).toNat)
    case atStart => exact ⟨0, Nat.zero_le _, rfl, Ext.refl _, fun j hj => absurd hj (by omega)⟩
    case round =>
      obtain ⟨k, hk, rfl, xk, hne⟩ := hrel
      have XK := Lib.hid xk
      have NE := Lib.hid hne
      clear xk hne
      by_cases hlt : k < n
      · have v1 : decide (k < n) = true := by simp; omega
        have hl := HL.out
        have hl' := HL'.out
        obtain ⟨ad, e1, _, hc⟩ := (HA.out.ext XK.out) (by omega)
        obtain ⟨bd, e2, _, hc'⟩ := (HA'.out.ext XK.out) (by omega)
        have q0 := hc k (by omega)
        have p0 := hc' k (by omega)
        obtain ⟨x, hx⟩ : ∃ x, xs.getD k 0 = x := ⟨_, rfl⟩
        obtain ⟨y, hy⟩ : ∃ y, ys.getD k 0 = y := ⟨_, rfl⟩
        rw [hx] at q0
        rw [hy] at p0
        have HX := Lib.hid hx
        have HY := Lib.hid hy
        clear hc hc' hl hl' hx hy
        subst e1 e2
        by_cases hxy : x = y
        · subst hxy
          have t1 : (x != x) = false := by simp
          go_wp2_with fail
          go_quiet (fail)
          go_wp2_with fail
          go_roundw
          case rel =>
            refine ⟨k + 1, by omega, by go_num, by first | exact XK.out.trans (extN _ _) | exact XK.out.drew | exact XK.out, fun j hj => ?_⟩
            by_cases hjk : j < k
            · exact NE.out j hjk
            · obtain rfl : j = k := by omega
              rw [HX.out, HY.out]
          case measure => simp [intOf]; omega
        · have HF : Hid (decide (xs = ys) = false) := Lib.hid (by
            simp
            intro h
            apply hxy
            have h1 := HX.out
            have h2 := HY.out
            rw [h, h2] at h1
            exact h1.symm)
          have t1 : (x != y) = true := by rw [bne_iff_ne]; exact hxy
          have HXY := Lib.hid hxy
          clear hxy
          go_wp2_with fail
          go_quiet (fail)
          go_wp2_with fail
          rw [HF.out]
          go_ret
          exact ⟨rfl, by first | exact XK.out.trans (extN _ _) | exact XK.out.drew | exact XK.out⟩
      · have v1 : decide (k < n) = false := by simp; omega
        obtain rfl : k = n := by omega
        have HF : Hid (decide (xs = ys) = true) := Lib.hid (by
          simp
          exact eq_getD (d := 0) (by rw [HL.out, HL'.out]) (by rw [HL.out]; exact NE.out))
        go_wp2_with fail
        rw [HF.out]
        go_ret
        exact ⟨rfl, XK.out⟩
  · have t0 : ((n : Int) != (n' : Int)) = true := by rw [bne_iff_ne]; omega
    have t1 : (n != n') = true := by rw [bne_iff_ne]; omega
    have HF : Hid (decide (xs = ys) = false) := Lib.hid (by
      simp
      intro h
      apply hnn
      rw [← HL.out, ← HL'.out, h])
    have HNN := Lib.hid hnn
    clear hnn
    go_enter Try.func65, Try.ntmps65
    go_wp2_with fail
    rw [HF.out]
    go_ret
    exact ⟨rfl, Ext.refl w⟩
set_option maxRecDepth 100000 in
set_option maxHeartbeats 1000000 in
theorem eqPs_ok (w : World) (A A' : Option Addr) (n n' c c' : Nat) (xs ys : List Pr) (hl : xs.length = n) (hl' : ys.length = n') (hn : n ≤ 1000000) (hn' : n' ≤ 1000000) (hA : PAt w A xs) (hA' : PAt w A' ys) :
    Calls Try.prog 66 #[.slice A n c, .slice A' n' c'] w fun e w' => e = .returned (.bool (decide (xs = ys))) ∧ Ext w w' := by
  have HA := Lib.hid hA
  have HA' := Lib.hid hA'
  have HL := Lib.hid hl
  have HL' := Lib.hid hl'
  clear hA hA' hl hl'
  by_cases hnn : n = n'
  · subst hnn
    have t0 : ((n : Int) != (n : Int)) = false := by simp
    go_enter Try.func66, Try.ntmps66
    go_wp2_with fail
    go_loopw [13] (fun i wr => ∃ k : Nat, k ≤ n ∧ i = .int .i64 k ∧ Ext w wr ∧ ∀ j, j < k → xs.getD j (0, 0) = ys.getD j (0, 0)) (fun i _ => n - (intOf i).toNat)
    case atStart => exact ⟨0, Nat.zero_le _, rfl, Ext.refl _, fun j hj => absurd hj (by omega)⟩
    case round =>
      obtain ⟨k, hk, rfl, xk, hne⟩ := hrel
      have XK := Lib.hid xk
      have NE := Lib.hid hne
      clear xk hne
      by_cases hlt : k < n
      · have v1 : decide (k < n) = true := by simp; omega
        have hl := HL.out
        have hl' := HL'.out
        obtain ⟨ad, e1, _, hc⟩ := (HA.out.ext XK.out) (by omega)
        obtain ⟨bd, e2, _, hc'⟩ := (HA'.out.ext XK.out) (by omega)
        obtain ⟨q0, q1⟩ := hc k (by omega)
        obtain ⟨p0, p1⟩ := hc' k (by omega)
        obtain ⟨x, hx⟩ : ∃ x, xs.getD k (0, 0) = x := ⟨_, rfl⟩
        obtain ⟨y, hy⟩ : ∃ y, ys.getD k (0, 0) = y := ⟨_, rfl⟩
        rw [hx] at q0 q1
        rw [hy] at p0 p1
        have HX := Lib.hid hx
        have HY := Lib.hid hy
        clear hc hc' hl hl' hx hy
        subst e1 e2
        obtain ⟨xa, xb⟩ := x
        obtain ⟨ya, yb⟩ := y
        simp only at q0 q1 p0 p1
        by_cases hxy : (xa, xb) = (ya, yb)
        · obtain ⟨rfl, rfl⟩ : xa = ya ∧ xb = yb := by simpa using hxy
          have t1 := fun W => pr_yes xa xb W
          clear hxy
          go_wp2_with fail
          go_quiet (fail)
          go_wp2_with fail
          go_roundw
          case rel =>
            refine ⟨k + 1, by omega, by go_num, by first | exact XK.out.trans (extN _ _) | exact XK.out.drew | exact XK.out, fun j hj => ?_⟩
            by_cases hjk : j < k
            · exact NE.out j hjk
            · obtain rfl : j = k := by omega
              rw [HX.out, HY.out]
          case measure => simp [intOf]; omega
        · have HF : Hid (decide (xs = ys) = false) := Lib.hid (by
            simp
            intro h
            apply hxy
            have h1 := HX.out
            have h2 := HY.out
            rw [h, h2] at h1
            exact h1.symm)
          have t1 := fun W => pr_no hxy W
          have HXY := Lib.hid hxy
          clear hxy
          go_wp2_with fail
          go_quiet (fail)
          go_wp2_with fail
          rw [HF.out]
          go_ret
          exact ⟨rfl, by first | exact XK.out.trans (extN _ _) | exact XK.out.drew | exact XK.out⟩
      · have v1 : decide (k < n) = false := by simp; omega
        obtain rfl : k = n := by omega
        have HF : Hid (decide (xs = ys) = true) := Lib.hid (by
          simp
          exact eq_getD (d := (0, 0)) (by rw [HL.out, HL'.out]) (by rw [HL.out]; exact NE.out))
        go_wp2_with fail
        rw [HF.out]
        go_ret
        exact ⟨rfl, XK.out⟩
  · have t0 : ((n : Int) != (n' : Int)) = true := by rw [bne_iff_ne]; omega
    have t1 : (n != n') = true := by rw [bne_iff_ne]; omega
    have HF : Hid (decide (xs = ys) = false) := Lib.hid (by
      simp
      intro h
      apply hnn
      rw [← HL.out, ← HL'.out, h])
    have HNN := Lib.hid hnn
    clear hnn
    go_enter Try.func66, Try.ntmps66
    go_wp2_with fail
    rw [HF.out]
    go_ret
    exact ⟨rfl, Ext.refl w⟩
/-- A state, and where its parts are read. -/
structure Sta where
  q : List Int
  s : List Int
  m : List Pr
deriving DecidableEq
structure StAt (w : World) (A0 A1 A2 : Option Addr) (st : Sta) : Prop where
  q : Ints w .u32 A0 st.q
  s : Ints w .u32 A1 st.s
  m : PAt w A2 st.m
theorem StAt.ext {w w' : World} {A0 A1 A2 : Option Addr} {st : Sta} (h : StAt w A0 A1 A2 st) (x : Ext w w') : StAt w' A0 A1 A2 st := ⟨h.q.ext x, h.s.ext x, h.m.ext x⟩
structure Lens (st : Sta) (n0 n1 n2 : Nat) : Prop where
  q : st.q.length = n0
  s : st.s.length = n1
  m : st.m.length = n2
theorem sta_eq (a b : Sta) : decide (a = b) = (decide (a.q = b.q) && (decide (a.s = b.s) && decide (a.m = b.m))) := by
  obtain ⟨a0, a1, a2⟩ := a
  obtain ⟨b0, b1, b2⟩ := b
  simp [Bool.decide_and]
set_option maxRecDepth 100000 in
set_option maxHeartbeats 1000000 in
theorem few_ok (w : World) (A0 A1 A2 : Option Addr) (n0 n1 n2 c0 c1 c2 : Nat) (h0 : n0 ≤ 9223372036854775807) (h1 : n1 ≤ 9223372036854775807) (h2 : n2 ≤ 9223372036854775807) :
    Calls Try.prog 19 #[.agg #[.slice A0 n0 c0, .slice A1 n1 c1, .slice A2 n2 c2]] w fun e w' => e = .returned (.bool (decide (n0 ≤ 100) && (decide (n1 ≤ 100) && decide (n2 ≤ 100)))) ∧ Ext w w' := by
  by_cases k0 : n0 ≤ 100
  · have d0 : decide (n0 ≤ 100) = true := by simp; omega
    by_cases k1 : n1 ≤ 100
    · have d1 : decide (n1 ≤ 100) = true := by simp; omega
      by_cases k2 : n2 ≤ 100
      · have d2 : decide (n2 ≤ 100) = true := by simp; omega
        rw [d0, d1, d2]
        go_enter Try.func19, Try.ntmps19
        go_wp2_with fail
        go_ret
        exact ⟨by simp <;> omega, (Ext.refl w).alloc _⟩
      · have d2 : decide (n2 ≤ 100) = false := by simp; omega
        rw [d0, d1, d2]
        go_enter Try.func19, Try.ntmps19
        go_wp2_with fail
        go_ret
        exact ⟨by simp <;> omega, (Ext.refl w).alloc _⟩
    · have d1 : decide (n1 ≤ 100) = false := by simp; omega
      rw [d0, d1]
      go_enter Try.func19, Try.ntmps19
      go_wp2_with fail
      go_ret
      exact ⟨by simp, (Ext.refl w).alloc _⟩
  · have d0 : decide (n0 ≤ 100) = false := by simp; omega
    rw [d0]
    go_enter Try.func19, Try.ntmps19
    go_wp2_with fail
    go_ret
    exact ⟨by simp, (Ext.refl w).alloc _⟩
set_option maxRecDepth 100000 in
set_option maxHeartbeats 2000000 in
theorem mSame_ok (w : World) (A0 A1 A2 B0 B1 B2 : Option Addr) (n0 n1 n2 c0 c1 c2 m0 m1 m2 d0 d1 d2 : Nat) (a b : Sta) (ha : StAt w A0 A1 A2 a) (hb : StAt w B0 B1 B2 b) (la : Lens a n0 n1 n2) (lb : Lens b m0 m1 m2)
    (h0 : n0 ≤ 1000000) (h1 : n1 ≤ 1000000) (h2 : n2 ≤ 1000000) (g0 : m0 ≤ 1000000) (g1 : m1 ≤ 1000000) (g2 : m2 ≤ 1000000) :
    Calls Try.prog 30 #[.agg #[.slice A0 n0 c0, .slice A1 n1 c1, .slice A2 n2 c2], .agg #[.slice B0 m0 d0, .slice B1 m1 d1, .slice B2 m2 d2]] w fun e w' => e = .returned (.bool (decide (a = b))) ∧ Ext w w' := by
  have H0 := Lib.hid (fun (W : World) (x : Ext w W) => eq32_ok W A0 B0 n0 m0 c0 d0 a.q b.q la.q lb.q h0 g0 (ha.ext x).q (hb.ext x).q)
  have H1 := Lib.hid (fun (W : World) (x : Ext w W) => eq32_ok W A1 B1 n1 m1 c1 d1 a.s b.s la.s lb.s h1 g1 (ha.ext x).s (hb.ext x).s)
  have H2 := Lib.hid (fun (W : World) (x : Ext w W) => eqPs_ok W A2 B2 n2 m2 c2 d2 a.m b.m la.m lb.m h2 g2 (ha.ext x).m (hb.ext x).m)
  rw [sta_eq]
  generalize decide (a.q = b.q) = r0 at *
  generalize decide (a.s = b.s) = r1 at *
  generalize decide (a.m = b.m) = r2 at *
  have x0 := ext2 w (.cells #[.slice A0 n0 c0, .slice A1 n1 c1, .slice A2 n2 c2] 54) (.cells #[.slice B0 m0 d0, .slice B1 m1 d1, .slice B2 m2 d2] 54)
  have l0 := (Blk.new w 54 [.slice A0 n0 c0, .slice A1 n1 c1, .slice A2 n2 c2]).ext ((Ext.refl _).alloc (.cells #[.slice B0 m0 d0, .slice B1 m1 d1, .slice B2 m2 d2] 54))
  have l1 := Blk.new (w.alloc (.cells #[.slice A0 n0 c0, .slice A1 n1 c1, .slice A2 n2 c2] 54)) 54 [.slice B0 m0 d0, .slice B1 m1 d1, .slice B2 m2 d2]
  rw [show (w.alloc (.cells #[.slice A0 n0 c0, .slice A1 n1 c1, .slice A2 n2 c2] 54)).heap.size = w.heap.size + 1 by simp] at l1
  have X0 := Lib.hid x0
  have L0 := Lib.hid l0
  have L1 := Lib.hid l1
  clear ha hb la lb x0 l0 l1
  go_enter Try.func30, Try.ntmps30
  go_wp2_with fail
  refine (H0.out _ (by exact X0.out)).mono ?_
  rintro e w1 ⟨rfl, x1⟩
  have X1 := Lib.hid (X0.out.trans x1)
  have a1 : w1.cell? ⟨w.heap.size, 1, none⟩ = some (.slice A1 n1 c1) := (L0.out.ext x1).cell 1
  have b1 : w1.cell? ⟨w.heap.size + 1, 1, none⟩ = some (.slice B1 m1 d1) := (L1.out.ext x1).cell 1
  have LL0 := Lib.hid (L0.out.ext x1)
  have LL1 := Lib.hid (L1.out.ext x1)
  clear x1 H0 X0 L0 L1
  cases r0
  · go_wp2_with fail
    go_ret
    exact ⟨rfl, X1.out⟩
  go_wp2_with fail
  refine (H1.out _ X1.out).mono ?_
  rintro e w2 ⟨rfl, x2⟩
  have X2 := Lib.hid (X1.out.trans x2)
  have a2 : w2.cell? ⟨w.heap.size, 2, none⟩ = some (.slice A2 n2 c2) := (LL0.out.ext x2).cell 2
  have b2 : w2.cell? ⟨w.heap.size + 1, 2, none⟩ = some (.slice B2 m2 d2) := (LL1.out.ext x2).cell 2
  clear x2 H1 X1 LL0 LL1 a1 b1
  cases r1
  · go_wp2_with fail
    go_ret
    exact ⟨rfl, X2.out⟩
  go_wp2_with fail
  refine (H2.out _ X2.out).mono ?_
  rintro e w3 ⟨rfl, x3⟩
  have X3 := Lib.hid (X2.out.trans x3)
  clear x3 a2 b2
  cases r2
  · go_wp2_with fail
    go_ret
    exact ⟨rfl, X3.out⟩
  · go_wp2_with fail
    go_ret
    exact ⟨rfl, X3.out⟩
end Go.Proofs.Ytcelhllhdkminaa
