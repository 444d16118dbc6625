/- PdevOnce where something is asked: the walk. Conditions: those that each theorem names. -/
import Derived.Test.YtibeeobhpdallaaOnce2
import Derived.Deep.RegionHeld3
import Derived.IntWalk
import Derived.BigQuiet
import Derived.Deep.QuietTactic
namespace Go.Proofs.Ytibeeobhpdallaa
open Go.ChangeShapes Go.WideShapes Go.ChangeAt Go.RowKit
set_option linter.unusedVariables false
theorem ext_drewN {a b : World} (h : Ext a b) (n : Nat) : Ext a (b.drewN n) := h.trans ⟨rfl, rfl, rfl, Nat.le_refl _, fun _ _ => rfl⟩
theorem backs_big2 (l : List Int) : ∀ s : DSt, Big s → (∀ x ∈ l, 0 ≤ x ∧ x < (s.n : Int)) → Big (s.backs l) := by
  induction l with
  | nil => intro s h _; exact h
  | cons p l ih =>
    intro s h hr
    have hp := hr p List.mem_cons_self
    exact ih (s.back p.toNat) (h.back _ (by omega)) (fun x hx => hr x (List.mem_cons_of_mem _ hx))
theorem act_big {s : DSt} (hb : Big s) (hr : ∀ t, ∀ x ∈ s.fl.getD t [], 0 ≤ x ∧ x < (s.n : Int)) (k t l a x : Int) : Big (s.act k t l a x) := by
  unfold DSt.act
  split
  · unfold DSt.flush; split
    · exact ⟨hb.k, hb.s⟩
    · exact hb
  split
  · unfold DSt.fence; split
    · have := backs_big2 (s.fl.getD t.toNat []) s hb (hr _)
      exact ⟨this.k, this.s⟩
    · exact hb
  split
  · unfold DSt.evict; split
    · exact hb.back _ (by omega)
    · exact hb
  split
  · exact ⟨hb.k, hb.k⟩
  split
  · exact hb
  · unfold DSt.store; split
    · exact ⟨hb.k, by show (s.seen.set _ _).length = _; rw [List.length_set]; exact hb.s⟩
    · exact hb
theorem acts_big (s0 : DSt) (ys : List Act5) (h0 : Big s0) (hF : ∀ i, i ≤ ys.length → Fine i (s0.acts (ys.take i))) : ∀ i, i ≤ ys.length → Big (s0.acts (ys.take i)) := by
  intro i
  induction i with
  | zero => intro _; exact h0
  | succ i ih =>
    intro hi
    rw [acts_take s0 ys i (by omega)]
    exact act_big (ih (by omega)) (hF i (by omega)).rng _ _ _ _ _
/-- What was seen, state by state. -/
def seens (s0 : DSt) (ys : List Act5) (k : Nat) : List (List Int) := (List.range k).map fun j => (s0.acts (ys.take j)).seen
theorem seens_succ (s0 : DSt) (ys : List Act5) (k : Nat) : seens s0 ys (k + 1) = seens s0 ys k ++ [(s0.acts (ys.take k)).seen] := by simp [seens, List.range_succ]
theorem seens_len (s0 : DSt) (ys : List Act5) (k : Nat) : (seens s0 ys k).length = k := by simp [seens]
theorem seens_at (s0 : DSt) (ys : List Act5) (k j : Nat) (h : j < k) : (seens s0 ys k).getD j [] = (s0.acts (ys.take j)).seen := by
  unfold seens
  rw [List.getD_eq_getElem?_getD, List.getElem?_map, List.getElem?_range h]; rfl
theorem Held.base {w0 w : World} {v : Value} {s : DSt} {vr : Value} {us : List Value} {Zs : List (List Int)} {N : Nat} (h : Held w0 w v s vr us Zs N) : Ext w0 w := by
  obtain ⟨_, _, ⟨_, _, _, e, _⟩, _⟩ := h
  exact e
set_option maxRecDepth 100000 in
set_option maxHeartbeats 4000000 in
theorem pdevOnce_yes (w : World) (A A1 : Option Addr) (N m c n1 c1 : Nat) (zs : List Int) (ys : List Act5) (hN : m * 8 = N) (N60 : N ≤ 60) (m0 : 0 < m) (hl : zs.length = N) (hcap : N ≤ c) (hcm : c ≤ 9223372036854775807) (hz : Lim zs 18446744073709551616) (hA : Ints w .u64 A zs)
    (hy : ys.length = n1) (hn1 : n1 ≤ 60) (hc1 : n1 ≤ c1) (hcm1 : c1 ≤ 9223372036854775807) (hY : Acts w A1 ys) :
    Calls Try.prog 5 #[.slice A N c, .slice A1 n1 c1] w (fun e w' => e = .returned (.bool true) ∧ Ext w w') := by
  have HO := open_ok w A m c 3 zs (by omega) m0 (by omega) (by omega) hcm hz hA (by decide) (by decide)
  rw [hN] at HO
  have F0 := fine_new m 3 zs
  have B0 : Big (⟨m, 3, zs, zs, List.replicate m 0, List.replicate 3 []⟩ : DSt) := ⟨by show zs.length = m * 8; omega, by show zs.length = m * 8; omega⟩
  have K0 : (⟨m, 3, zs, zs, List.replicate m 0, List.replicate 3 []⟩ : DSt).kept = (⟨m, 3, zs, zs, List.replicate m 0, List.replicate 3 []⟩ : DSt).seen := rfl
  generalize hs0 : (⟨m, 3, zs, zs, List.replicate m 0, List.replicate 3 []⟩ : DSt) = s0 at *
  have hsn : s0.n = m ∧ s0.T = 3 := by rw [← hs0]; exact ⟨rfl, rfl⟩
  clear hs0
  replace HO := Lib.hid HO
  have t1 : decide ((60 : Int) < (N : Int)) = false := by simp; omega
  have t2 : decide ((60 : Int) < (n1 : Int)) = false := by simp; omega
  have hFin := fun i hi => fine_acts s0 ys F0 i hi
  have hBig := acts_big s0 ys B0 (fun i hi => hFin i hi (by omega))
  have HOn := Lib.hid (fun q (hq : q < m) => kept_once s0 ys K0 (fun i hi => hFin i hi (by omega)) hBig q (by omega) n1 (by omega))
  have HFin := Lib.hid hFin
  have HBig := Lib.hid hBig
  have HY := Lib.hid hY
  have hns : ∀ k, (s0.acts (ys.take k)).n = m := fun k => ((acts_n (ys.take k) s0).1).trans hsn.1
  have Hns := Lib.hid hns
  have HK := Lib.hid K0
  clear hA hY F0 hl B0 K0 hFin hBig hns
  go_enter Try.func5, Try.ntmps5
  go_wp2_with fail
  refine HO.out.mono ?_
  rintro e w1 ⟨D, rfl, hD, xD⟩
  have a0 : At w w1 D.ptr s0 := At.mk hD xD
  generalize D.ptr = v at a0
  clear hD xD HO
  go_wp2_with fail
  refine (AtQ.seenA a0 N (by omega)).mono ?_
  rintro e w2 ⟨⟨g2, c2, rfl, k2, j2, I2, x2, l2, r2⟩, _⟩
  have hH := Held.first a0 x2 k2 j2 I2 l2 r2
  clear a0 x2 k2 j2 I2 l2 r2
  go_wp2_with fail
  generalize w2.alloc (.cells #[.slice (some ⟨g2, 0, none⟩) N c2] 22) = w3 at *
  go_loopw [7, 8] (fun vr i wr => ∃ k us, k ≤ n1 ∧ i = .int .i64 ((k : Nat) : Int) ∧ Held w wr v (s0.acts (ys.take k)) vr us (seens s0 ys (k + 1)) N ∧ us.length = k + 1) (fun _ i _ => n1 - (intOf i).toNat)
  case atStart => exact ⟨0, _, Nat.zero_le _, rfl, hH, rfl⟩
  case round =>
    clear hH
    obtain ⟨k, us, hk, rfl, hH, hus⟩ := hrel
    have xk : Ext w wr := hH.base
    obtain ⟨Q, wb, hA, hq, hr, hrow⟩ := hH
    by_cases hlt : k < n1
    · have u1 : decide (k < n1) = true := by simp; omega
      obtain ⟨ad, hA1, _, hac⟩ := HY.out.ext xk (by omega)
      obtain ⟨⟨q0, q1, q2, q3, q4⟩, hx⟩ := hac k (by omega)
      have HD := Lib.hid (do_ok w wr v _ hA k (by omega) (HFin.out k (by omega) (by omega)) (ys.getD k noAct).k (ys.getD k noAct).t (ys.getD k noAct).l (ys.getD k noAct).a (ys.getD k noAct).x hx)
      have HT := Lib.hid (acts_take s0 ys k (by omega))
      clear hac hx
      generalize hz5 : ys.getD k noAct = z at *
      clear hz5
      subst hA1
      have HA := Lib.hid hA
      have HR := Lib.hid hr
      have HW := Lib.hid hrow
      clear hA hr hrow
      go_wp2_with fail
      refine HD.out.mono ?_
      rintro e w4 ⟨rfl, hA2⟩
      rw [← HT.out] at hA2
      obtain ⟨hr2, hrow2⟩ := Held.go HA.out hq HR.out HW.out hA2
      have xk2 : Ext w w4 := by
        obtain ⟨_, _, _, e, _⟩ := hA2
        exact e
      have HA2 := Lib.hid hA2
      have HR2 := Lib.hid hr2
      have HW2 := Lib.hid hrow2
      clear hA2 hr2 hrow2 HA HR HW HD q0 q1 q2 q3 q4
      go_wp2_with fail
      refine (HA2.out.seenA N (by rw [Hns.out]; exact hN)).mono ?_
      rintro e w5 ⟨⟨g5, c5, rfl, k5, j5, I5, x5, l5, r5⟩, _⟩
      have HI5 := Lib.hid I5
      clear I5
      go_wp2_with ((at_builtin; refine Hid.out ?_))
      refine Lib.hid ?_
      refine wpList_pushV rfl _ _ rfl w w5 _ us (some ⟨g5, 0, none⟩) N c5 (by rfl) (HW2.out.ext x5) (xk2.trans x5) (by rfl) (by omega) ?_
      intro v' w' hrow' hext' hfr ho
      have hH2 := Held.more HA2.out hq HR2.out HW2.out x5 k5 j5 HI5.out l5 r5 hrow' hext' hfr ho
      rw [← seens_succ] at hH2
      clear hrow' hext' hfr ho HA2 HR2 HW2
      go_wp2_with fail
      go_roundw
      case rel => exact ⟨k + 1, _, by omega, by go_num, hH2, by rw [List.length_append, hus]; rfl⟩
      case measure => simp [intOf]; omega
    · have u1 : decide (k < n1) = false := by simp; omega
      obtain rfl : k = n1 := by omega
      have HA := Lib.hid hA
      have HR := Lib.hid hr
      have HW := Lib.hid hrow
      clear hA hr hrow HFin HY hq
      have eT : ys.take k = ys := List.take_of_length_le (by omega)
      go_wp2_with fail
      refine (HA.out.keptA N (by rw [Hns.out]; exact hN)).mono ?_
      rintro e w5 ⟨⟨g5, c5, rfl, k5, j5, I5, x5, l5, r5⟩, _⟩
      have xw5 := xk.trans x5
      have HI := Lib.hid I5
      have HR5 := Lib.hid (HR.out.ext x5)
      have hLK : (s0.acts (ys.take k)).kept.length = N := by rw [(HBig.out k (by omega)).k, Hns.out]; exact hN
      obtain ⟨gr, cr, rfl, hcr, hgr, hcl⟩ := (HW.out.ext x5).at_ (k + 1) hus (by omega)
      have HCl := Lib.hid hcl
      have HLK := Lib.hid hLK
      have HZ := Lib.hid (fun j (hj : j < k + 1) => show ((seens s0 ys (k + 1)).getD j []).length = N by rw [seens_at _ _ _ _ hj, (HBig.out j (by omega)).s, Hns.out]; exact hN)
      have HOn2 : Hid (∀ q, q < m → ∃ j, j < k + 1 ∧ lineOf ((seens s0 ys (k + 1)).getD j []) q = lineOf (s0.acts (ys.take k)).kept q) := Lib.hid (fun q hq => by
        obtain ⟨j, hj, e⟩ := HOn.out q hq
        exact ⟨j, by omega, by rw [seens_at _ _ _ _ (by omega)]; exact e⟩)
      clear hcl hLK HA HR HW x5 I5 xk l5 r5 HOn HBig Hns HK eT
      generalize (s0.acts (ys.take k)).kept = K at *
      generalize seens s0 ys (k + 1) = Zs at *
      have n8 : (N : Int) / 8 = (m : Int) := by omega
      have n9 : N / 8 = m := by omega
      have Hn8 := Lib.hid n8
      have Hn9 := Lib.hid n9
      clear n8 n9
      unfold maxLen at j5
      go_wp2_with fail
      go_loopw [10] (fun i wr => ∃ q : Nat, q ≤ m ∧ i = .int .i64 q ∧ Ext w5 wr) (fun i _ => m - (intOf i).toNat)
      case atStart => exact ⟨0, Nat.zero_le _, rfl, Ext.refl _⟩
      case round =>
        obtain ⟨q, hq, rfl, xr⟩ := hrel
        have n8 := Hn8.out
        have n9 := Hn9.out
        by_cases hq2 : q < m
        · have u2 : decide (q < m) = true := by simp; omega
          have u3 : (q : Int) < (m : Int) := by omega
          generalize wr = wI at *
          go_wp2_with fail
          clear n8 n9
          go_loopw [11, 12] (fun f i wr => ∃ (j : Nat) (b : Bool), j ≤ k + 1 ∧ i = .int .i64 j ∧ f = .bool b ∧ Ext w5 wr ∧ Hid (b = false → ∀ j', j' < j → ¬ lineOf (Zs.getD j' []) q = lineOf K q)) (fun _ i _ => k + 1 - (intOf i).toNat)
          case atStart => exact ⟨0, false, Nat.zero_le _, rfl, rfl, xr, Lib.hid (fun _ j' hj' => by omega)⟩
          case round =>
            clear xr
            obtain ⟨j, b, hj, rfl, rfl, xr, HB⟩ := hrel
            by_cases hj2 : j < k + 1
            · have v1 : (j : Int) < ((k + 1 : Nat) : Int) := by omega
              have v2 : (j : Int) < (k : Int) + 1 := by omega
              have v3 : (0 : Int) ≤ (j : Int) := by omega
              cases b with
              | true =>
                clear HB
                go_wp2_with fail
                go_quiet (fail)
                go_wp2_with fail
                go_roundw
                case rel => exact ⟨j + 1, true, by omega, by go_num, rfl, ext_drewN xr _, Lib.hid (fun h => by cases h)⟩
                case measure => simp [intOf]; omega
              | false =>
                obtain ⟨g, cg, e, hcg, hcg2, hIg, hlg, _⟩ := (HR5.out.ext xr).2 j (by omega)
                have hcell : wr.cell? ⟨gr, j, none⟩ = some (.slice (some ⟨g, 0, none⟩) N cg) := by
                  rw [← e, ← HCl.out j hj2]
                  exact Below.cell xr.below (by exact hgr)
                have HI5 := Lib.hid (HI.out.ext xr)
                have HIg := Lib.hid hIg
                have hZl := HZ.out j hj2
                obtain ⟨b', hb'⟩ : ∃ b' : Bool, decide (lineOf (Zs.getD j []) q = lineOf K q) = b' := ⟨_, rfl⟩
                have Hb := Lib.hid hb'
                have HB2 : Hid (b' = false → ∀ j', j' < j + 1 → ¬ lineOf (Zs.getD j' []) q = lineOf K q) := Lib.hid (fun h j' hj' => by
                  by_cases ej : j' = j
                  · rw [ej]
                    rw [h] at hb'
                    exact of_decide_eq_false hb'
                  · exact HB.out rfl j' (by omega))
                have HZl := Lib.hid hZl
                clear hIg e hb' hZl HB
                unfold maxLen at hcg2
                obtain ⟨p, hp⟩ : ∃ p : Nat, 8 * q = p := ⟨_, rfl⟩
                obtain ⟨r, hr⟩ : ∃ r : Nat, p + 8 = r := ⟨_, rfl⟩
                have Hp := Lib.hid hp
                have b1 : (r : Int) ≤ (cg : Int) := by omega
                have b2 : (r : Int) ≤ (c5 : Int) := by omega
                have b3 : (p : Int) ≤ (r : Int) := by omega
                have b4 : (0 : Int) ≤ (p : Int) := by omega
                have b5 : (0 : Int) ≤ (r : Int) := by omega
                have b6 : p ≤ r := by omega
                have b7 : r ≤ cg := by omega
                have b8 : r ≤ c5 := by omega
                have b9 : p < cg := by omega
                have b10 : p < c5 := by omega
                have b11 : ¬ cg = p := by omega
                have b12 : ¬ c5 = p := by omega
                have b13 : ¬ cg - p = 0 := by omega
                have b14 : ¬ c5 - p = 0 := by omega
                have b15 : ¬ cg ≤ p := by omega
                have b16 : ¬ c5 ≤ p := by omega
                have hwq : IntKind.i64.wrap (p : Int) = (p : Int) := IntWalk.i64_in _ (by omega)
                have hwr : IntKind.i64.wrap (r : Int) = (r : Int) := IntWalk.i64_in _ (by omega)
                have e1 : 8 * (q : Int) = (p : Int) := by omega
                have e2 : (p : Int) + 8 = (r : Int) := by omega
                have e3 : r - p = 8 := by omega
                have hrN : p + 8 ≤ N := by omega
                clear hp hr
                have H1 : Hid (∀ W, Ext wr W → Calls Try.prog 18 #[.slice (some ⟨g, p, none⟩) 8 (cg - p), .slice (some ⟨g5, p, none⟩) 8 (c5 - p)] W fun e w' => e = .returned (.bool b') ∧ Ext W w') := Lib.hid (fun W x => by
                  have p1 := (HIg.out.ext x).part p 8 (by rw [HZl.out]; omega) (by omega)
                  have p2 := (HI5.out.ext x).part p 8 (by rw [HLK.out]; omega) (by omega)
                  rw [at0] at p1 p2
                  have hl := Hb.out
                  unfold lineOf at hl
                  rw [show q * 8 = p by have := Hp.out; omega] at hl
                  exact same_n _ _ 8 8 _ _ _ _ b' W (by rw [List.length_take, List.length_drop, HZl.out]; omega) (by rw [List.length_take, List.length_drop, HLK.out]; omega) (by omega) hl p1 p2)
                have hgl : gr < wr.heap.size := Nat.lt_of_lt_of_le hgr xr.size
                have xt : Ext wr wr.drew := (Ext.refl wr).drew
                clear Hb HIg HI5
                go_wp2_with fail
                go_region_held3 (fun w' => w'.cell? ⟨gr, j, none⟩ = some (.slice (some ⟨g, 0, none⟩) N cg))
                  (first | go_keep | exact (Below.cell xt.below (by exact hgl)).trans hcell)
                  (first
                    | (go_at_call 18; refine (H1.out _ xt).mono ?_; rintro e w9 ⟨rfl, x9⟩; replace xt := xt.trans x9; clear x9))
                go_wp2_with fail
                go_roundw
                case rel => exact ⟨j + 1, b', by omega, by go_num, rfl, xr.trans xt, HB2⟩
                case measure => simp [intOf]; omega
            · have v1 : ¬ (j : Int) < ((k + 1 : Nat) : Int) := by omega
              have v2 : ¬ (j : Int) < (k : Int) + 1 := by omega
              obtain rfl : b = true := by
                cases b with
                | true => rfl
                | false =>
                  obtain ⟨j', hj', e⟩ := HOn2.out q hq2
                  exact absurd e (HB.out rfl j' (by omega))
              clear HB
              go_wp2_with fail
              go_roundw
              case rel => exact ⟨q + 1, by omega, by go_num, xr⟩
              case measure => simp [intOf]; omega
        · have u2 : decide (q < m) = false := by simp; omega
          have u3 : ¬ (q : Int) < (m : Int) := by omega
          go_wp2_with fail
          refine (awake4_of _).mono ?_
          rintro e w9 ⟨rfl, x9⟩
          go_wp2_with fail
          go_ret
          exact ⟨rfl, (xw5.trans xr).trans x9⟩
end Go.Proofs.Ytibeeobhpdallaa
