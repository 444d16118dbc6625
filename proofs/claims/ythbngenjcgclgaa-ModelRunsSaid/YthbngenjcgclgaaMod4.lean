/- Layer 8: limekilnlaw08.same: the same states? Conditions: those that each theorem names. -/
import Derived.Test.YthbngenjcgclgaaMod3
namespace Go.Proofs.Ythbngenjcgclgaa
open Go.ChangeShapes Go.WideShapes Go.ChangeAt Go.RowKit
set_option linter.unusedVariables false
set_option maxRecDepth 100000 in
set_option maxHeartbeats 2000000 in
theorem same8_no (w : World) (A0 A1 A2 B0 B1 B2 : Option Addr) (n0 n1 n2 c0 c1 c2 m0 m1 m2 d0 d1 d2 : Nat) (a b : Sta) (ha : StAt w A0 A1 A2 a) (hb : StAt w B0 B1 B2 b) (la : Lens a n0 n1 n2) (lb : Lens b m0 m1 m2)
    (h0 : n0 ≤ 1000000) (h1 : n1 ≤ 1000000) (h2 : n2 ≤ 1000000) (g0 : m0 ≤ 1000000) (g1 : m1 ≤ 1000000) (g2 : m2 ≤ 1000000) (hne : ¬ (n0 = m0 ∧ n1 = m1 ∧ n2 = m2)) :
    Calls Try.prog 11 #[.agg #[.slice A0 n0 c0, .slice A1 n1 c1, .slice A2 n2 c2], .agg #[.slice B0 m0 d0, .slice B1 m1 d1, .slice B2 m2 d2]] w fun e w' => e = .returned (.bool (decide (a = b))) ∧ Ext w w' := by
  have HF : Hid (decide (a = b) = false) := Lib.hid (by
    simp
    intro h
    subst h
    exact hne ⟨by rw [← la.q, ← lb.q], by rw [← la.s, ← lb.s], by rw [← la.m, ← lb.m]⟩)
  clear ha hb la lb
  rw [HF.out]
  by_cases e0 : n0 = m0
  · subst e0
    have t0 : ((n0 : Int) != (n0 : Int)) = false := by simp
    by_cases e1 : n1 = m1
    · subst e1
      have t1 : ((n1 : Int) != (n1 : Int)) = false := by simp
      have t2 : ((n2 : Int) != (m2 : Int)) = true := by rw [bne_iff_ne]; omega
      have t3 : (n2 != m2) = true := by rw [bne_iff_ne]; omega
      clear hne
      go_enter Try.func11, Try.ntmps11
      go_wp2_with fail
      go_ret
      exact ⟨rfl, ext2 w _ _⟩
    · have t2 : ((n1 : Int) != (m1 : Int)) = true := by rw [bne_iff_ne]; omega
      have t3 : (n1 != m1) = true := by rw [bne_iff_ne]; omega
      clear hne e1
      go_enter Try.func11, Try.ntmps11
      go_wp2_with fail
      go_ret
      exact ⟨rfl, ext2 w _ _⟩
  · have t2 : ((n0 : Int) != (m0 : Int)) = true := by rw [bne_iff_ne]; omega
    have t3 : (n0 != m0) = true := by rw [bne_iff_ne]; omega
    clear hne e0
    go_enter Try.func11, Try.ntmps11
    go_wp2_with fail
    go_ret
    exact ⟨rfl, ext2 w _ _⟩
set_option maxRecDepth 100000 in
set_option maxHeartbeats 4000000 in
theorem same8_ok (w : World) (A0 A1 A2 B0 B1 B2 : Option Addr) (n0 n1 n2 c0 c1 c2 m0 m1 m2 d0 d1 d2 : Nat) (a b : Sta) (ha : StAt w A0 A1 A2 a) (hb : StAt w B0 B1 B2 b) (la : Lens a n0 n1 n2) (lb : Lens b m0 m1 m2)
    (h0 : n0 ≤ 1000000) (h1 : n1 ≤ 1000000) (h2 : n2 ≤ 1000000) (g0 : m0 ≤ 1000000) (g1 : m1 ≤ 1000000) (g2 : m2 ≤ 1000000) :
    Calls Try.prog 11 #[.agg #[.slice A0 n0 c0, .slice A1 n1 c1, .slice A2 n2 c2], .agg #[.slice B0 m0 d0, .slice B1 m1 d1, .slice B2 m2 d2]] w fun e w' => e = .returned (.bool (decide (a = b))) ∧ Ext w w' := by
  by_cases hne : n0 = m0 ∧ n1 = m1 ∧ n2 = m2
  case neg => exact same8_no w A0 A1 A2 B0 B1 B2 n0 n1 n2 c0 c1 c2 m0 m1 m2 d0 d1 d2 a b ha hb la lb h0 h1 h2 g0 g1 g2 hne
  obtain ⟨rfl, rfl, rfl⟩ := hne
  have t0 : ((n0 : Int) != (n0 : Int)) = false := by simp
  have t1 : ((n1 : Int) != (n1 : Int)) = false := by simp
  have t2 : ((n2 : Int) != (n2 : Int)) = false := by simp
  have HA := Lib.hid ha
  have HB := Lib.hid hb
  have HLA := Lib.hid la
  have HLB := Lib.hid lb
  have Y0 := Lib.hid (ext2 w (.cells #[.slice A0 n0 c0, .slice A1 n1 c1, .slice A2 n2 c2] 25) (.cells #[.slice B0 n0 d0, .slice B1 n1 d1, .slice B2 n2 d2] 25))
  have l0 := (Blk.new w 25 [.slice A0 n0 c0, .slice A1 n1 c1, .slice A2 n2 c2]).ext ((Ext.refl _).alloc (.cells #[.slice B0 n0 d0, .slice B1 n1 d1, .slice B2 n2 d2] 25))
  have l1 := Blk.new (w.alloc (.cells #[.slice A0 n0 c0, .slice A1 n1 c1, .slice A2 n2 c2] 25)) 25 [.slice B0 n0 d0, .slice B1 n1 d1, .slice B2 n2 d2]
  rw [show (w.alloc (.cells #[.slice A0 n0 c0, .slice A1 n1 c1, .slice A2 n2 c2] 25)).heap.size = w.heap.size + 1 by simp] at l1
  have L0 := Lib.hid l0
  have L1 := Lib.hid l1
  have X0 : Hid (Ext ((w.alloc (.cells #[.slice A0 n0 c0, .slice A1 n1 c1, .slice A2 n2 c2] 25)).alloc (.cells #[.slice B0 n0 d0, .slice B1 n1 d1, .slice B2 n2 d2] 25)) ((w.alloc (.cells #[.slice A0 n0 c0, .slice A1 n1 c1, .slice A2 n2 c2] 25)).alloc (.cells #[.slice B0 n0 d0, .slice B1 n1 d1, .slice B2 n2 d2] 25))) := Lib.hid (Ext.refl _)
  clear ha hb la lb l0 l1
  go_enter Try.func11, Try.ntmps11
  go_wp2_with fail
  go_loopw [5] (fun i wr => ∃ k : Nat, k ≤ n0 ∧ i = .int .i64 k ∧ Ext ((w.alloc (.cells #[.slice A0 n0 c0, .slice A1 n1 c1, .slice A2 n2 c2] 25)).alloc (.cells #[.slice B0 n0 d0, .slice B1 n1 d1, .slice B2 n2 d2] 25)) wr ∧ ∀ j, j < k → a.q.getD j 0 = b.q.getD j 0) (fun i _ => n0 - (intOf i).toNat)
  case atStart => exact ⟨0, Nat.zero_le _, rfl, X0.out, fun j hj => absurd hj (by omega)⟩
  case round =>
    clear X0
    obtain ⟨k, hk, rfl, xk, hne⟩ := hrel
    have XK := Lib.hid xk
    have NE := Lib.hid hne
    have u0 : wr.cell? ⟨w.heap.size, 0, none⟩ = some (.slice A0 n0 c0) := (L0.out.ext xk).cell 0
    have u1 : wr.cell? ⟨w.heap.size + 1, 0, none⟩ = some (.slice B0 n0 d0) := (L1.out.ext xk).cell 0
    clear xk hne
    by_cases hlt : k < n0
    · have v1 : decide (k < n0) = true := by simp; omega
      have hl := HLA.out.q
      have hl' := HLB.out.q
      have hxx := (Y0.out.trans XK.out)
      obtain ⟨ad, e1, _, hc⟩ := (HA.out.ext hxx).q (by omega)
      obtain ⟨bd, e2, _, hc'⟩ := (HB.out.ext hxx).q (by omega)
      clear hxx
      have q0 := hc k (by omega)
      have p0 := hc' k (by omega)
      obtain ⟨x, hx⟩ : ∃ x, a.q.getD k 0 = x := ⟨_, rfl⟩
      obtain ⟨y, hy⟩ : ∃ y, b.q.getD k 0 = y := ⟨_, rfl⟩
      rw [hx] at q0
      rw [hy] at p0
      have HX := Lib.hid hx
      have HY := Lib.hid hy
      clear hc hc' hl hl' hx hy
      subst e1 e2
      by_cases hxy : x = y
      · subst hxy
        have t1 : (x != x) = false := by simp
        go_wp2_with fail
        go_quiet (fail)
        go_wp2_with fail
        go_roundw
        case rel =>
          refine ⟨k + 1, by omega, by go_num, by first | exact XK.out.trans (extN _ _) | exact XK.out.drew | exact XK.out, fun j hj => ?_⟩
          by_cases hjk : j < k
          · exact NE.out j hjk
          · obtain rfl : j = k := by omega
            rw [HX.out, HY.out]
        case measure => simp [intOf]; omega
      · have HF : Hid (decide (a = b) = false) := Lib.hid (by
          simp
          intro h
          apply hxy
          have h1 := HX.out
          have h2 := HY.out
          rw [h, h2] at h1
          exact h1.symm)
        have t1 : (x != y) = true := by rw [bne_iff_ne]; exact hxy
        have HXY := Lib.hid hxy
        clear hxy
        go_wp2_with fail
        go_quiet (fail)
        go_wp2_with fail
        rw [HF.out]
        go_ret
        exact ⟨rfl, Y0.out.trans (by first | exact XK.out.trans (extN _ _) | exact XK.out.drew | exact XK.out)⟩
    · have v1 : decide (k < n0) = false := by simp; omega
      obtain rfl : n0 = k := by omega
      have E0 : Hid (a.q = b.q) := Lib.hid (eq_getD (d := 0) (by rw [HLA.out.q, HLB.out.q]) (by rw [HLA.out.q]; exact NE.out))
      generalize wr = wq1 at *
      have X1 := Lib.hid XK.out
      go_wp2_with fail
      clear u0 u1 XK NE
      go_loopw [6] (fun i wr => ∃ k : Nat, k ≤ n1 ∧ i = .int .i64 k ∧ Ext ((w.alloc (.cells #[.slice A0 n0 c0, .slice A1 n1 c1, .slice A2 n2 c2] 25)).alloc (.cells #[.slice B0 n0 d0, .slice B1 n1 d1, .slice B2 n2 d2] 25)) wr ∧ ∀ j, j < k → a.s.getD j 0 = b.s.getD j 0) (fun i _ => n1 - (intOf i).toNat)
      case atStart => exact ⟨0, Nat.zero_le _, rfl, X1.out, fun j hj => absurd hj (by omega)⟩
      case round =>
        clear X1
        obtain ⟨k, hk, rfl, xk, hne⟩ := hrel
        have XK := Lib.hid xk
        have NE := Lib.hid hne
        have u0 : wr.cell? ⟨w.heap.size, 1, none⟩ = some (.slice A1 n1 c1) := (L0.out.ext xk).cell 1
        have u1 : wr.cell? ⟨w.heap.size + 1, 1, none⟩ = some (.slice B1 n1 d1) := (L1.out.ext xk).cell 1
        clear xk hne
        by_cases hlt : k < n1
        · have v1 : decide (k < n1) = true := by simp; omega
          have hl := HLA.out.s
          have hl' := HLB.out.s
          have hxx := (Y0.out.trans XK.out)
          obtain ⟨ad, e1, _, hc⟩ := (HA.out.ext hxx).s (by omega)
          obtain ⟨bd, e2, _, hc'⟩ := (HB.out.ext hxx).s (by omega)
          clear hxx
          have q0 := hc k (by omega)
          have p0 := hc' k (by omega)
          obtain ⟨x, hx⟩ : ∃ x, a.s.getD k 0 = x := ⟨_, rfl⟩
          obtain ⟨y, hy⟩ : ∃ y, b.s.getD k 0 = y := ⟨_, rfl⟩
          rw [hx] at q0
          rw [hy] at p0
          have HX := Lib.hid hx
          have HY := Lib.hid hy
          clear hc hc' hl hl' hx hy
          subst e1 e2
          by_cases hxy : x = y
          · subst hxy
            have t1 : (x != x) = false := by simp
            go_wp2_with fail
            go_quiet (fail)
            go_wp2_with fail
            go_roundw
            case rel =>
              refine ⟨k + 1, by omega, by go_num, by first | exact XK.out.trans (extN _ _) | exact XK.out.drew | exact XK.out, fun j hj => ?_⟩
              by_cases hjk : j < k
              · exact NE.out j hjk
              · obtain rfl : j = k := by omega
                rw [HX.out, HY.out]
            case measure => simp [intOf]; omega
          · have HF : Hid (decide (a = b) = false) := Lib.hid (by
              simp
              intro h
              apply hxy
              have h1 := HX.out
              have h2 := HY.out
              rw [h, h2] at h1
              exact h1.symm)
            have t1 : (x != y) = true := by rw [bne_iff_ne]; exact hxy
            have HXY := Lib.hid hxy
            clear hxy
            go_wp2_with fail
            go_quiet (fail)
            go_wp2_with fail
            rw [HF.out]
            go_ret
            exact ⟨rfl, Y0.out.trans (by first | exact XK.out.trans (extN _ _) | exact XK.out.drew | exact XK.out)⟩
        · have v1 : decide (k < n1) = false := by simp; omega
          obtain rfl : n1 = k := by omega
          have E1 : Hid (a.s = b.s) := Lib.hid (eq_getD (d := 0) (by rw [HLA.out.s, HLB.out.s]) (by rw [HLA.out.s]; exact NE.out))
          generalize wr = wq2 at *
          have X2 := Lib.hid XK.out
          go_wp2_with fail
          clear u0 u1 XK NE
          go_loopw [7] (fun i wr => ∃ k : Nat, k ≤ n2 ∧ i = .int .i64 k ∧ Ext ((w.alloc (.cells #[.slice A0 n0 c0, .slice A1 n1 c1, .slice A2 n2 c2] 25)).alloc (.cells #[.slice B0 n0 d0, .slice B1 n1 d1, .slice B2 n2 d2] 25)) wr ∧ ∀ j, j < k → a.m.getD j (0, 0) = b.m.getD j (0, 0)) (fun i _ => n2 - (intOf i).toNat)
          case atStart => exact ⟨0, Nat.zero_le _, rfl, X2.out, fun j hj => absurd hj (by omega)⟩
          case round =>
            clear X2
            obtain ⟨k, hk, rfl, xk, hne⟩ := hrel
            have XK := Lib.hid xk
            have NE := Lib.hid hne
            have u0 : wr.cell? ⟨w.heap.size, 2, none⟩ = some (.slice A2 n2 c2) := (L0.out.ext xk).cell 2
            have u1 : wr.cell? ⟨w.heap.size + 1, 2, none⟩ = some (.slice B2 n2 d2) := (L1.out.ext xk).cell 2
            clear xk hne
            by_cases hlt : k < n2
            · have v1 : decide (k < n2) = true := by simp; omega
              have hl := HLA.out.m
              have hl' := HLB.out.m
              have hxx := (Y0.out.trans XK.out)
              obtain ⟨ad, e1, _, hc⟩ := (HA.out.ext hxx).m (by omega)
              obtain ⟨bd, e2, _, hc'⟩ := (HB.out.ext hxx).m (by omega)
              clear hxx
              obtain ⟨q0, q1⟩ := hc k (by omega)
              obtain ⟨p0, p1⟩ := hc' k (by omega)
              obtain ⟨x, hx⟩ : ∃ x, a.m.getD k (0, 0) = x := ⟨_, rfl⟩
              obtain ⟨y, hy⟩ : ∃ y, b.m.getD k (0, 0) = y := ⟨_, rfl⟩
              rw [hx] at q0 q1
              rw [hy] at p0 p1
              have HX := Lib.hid hx
              have HY := Lib.hid hy
              clear hc hc' hl hl' hx hy
              subst e1 e2
              obtain ⟨xa, xb⟩ := x
              obtain ⟨ya, yb⟩ := y
              simp only at q0 q1 p0 p1
              by_cases hxy : (xa, xb) = (ya, yb)
              · obtain ⟨rfl, rfl⟩ : xa = ya ∧ xb = yb := by simpa using hxy
                have t1 := fun W => pr_yes xa xb W
                clear hxy
                go_wp2_with fail
                go_quiet (fail)
                go_wp2_with fail
                go_roundw
                case rel =>
                  refine ⟨k + 1, by omega, by go_num, by first | exact XK.out.trans (extN _ _) | exact XK.out.drew | exact XK.out, fun j hj => ?_⟩
                  by_cases hjk : j < k
                  · exact NE.out j hjk
                  · obtain rfl : j = k := by omega
                    rw [HX.out, HY.out]
                case measure => simp [intOf]; omega
              · have HF : Hid (decide (a = b) = false) := Lib.hid (by
                  simp
                  intro h
                  apply hxy
                  have h1 := HX.out
                  have h2 := HY.out
                  rw [h, h2] at h1
                  exact h1.symm)
                have t1 := fun W => pr_no hxy W
                have HXY := Lib.hid hxy
                clear hxy
                go_wp2_with fail
                go_quiet (fail)
                go_wp2_with fail
                rw [HF.out]
                go_ret
                exact ⟨rfl, Y0.out.trans (by first | exact XK.out.trans (extN _ _) | exact XK.out.drew | exact XK.out)⟩
            · have v1 : decide (k < n2) = false := by simp; omega
              obtain rfl : n2 = k := by omega
              have E2 : Hid (a.m = b.m) := Lib.hid (eq_getD (d := (0, 0)) (by rw [HLA.out.m, HLB.out.m]) (by rw [HLA.out.m]; exact NE.out))
              go_wp2_with fail
              have HF : decide (a = b) = true := by
                rw [sta_eq, E0.out, E1.out, E2.out]
                simp
              rw [HF]
              go_ret
              exact ⟨rfl, Y0.out.trans XK.out⟩
end Go.Proofs.Ythbngenjcgclgaa
