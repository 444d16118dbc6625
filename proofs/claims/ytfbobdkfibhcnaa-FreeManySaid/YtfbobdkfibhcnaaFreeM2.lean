/- Whether each slot is in the free list once, or had by one: as the law asks. Conditions: those that each theorem names. -/
import Derived.Test.YtfbobdkfibhcnaaKFM
import Derived.Test.YtfbobdkfibhcnaaFreeLists
import Derived.Test.YtfbobdkfibhcnaaArgs
namespace Go.Proofs.Ytfbobdkfibhcnaa
open Go.ChangeShapes Go.WideShapes Go.ChangeAt Go.RowKit
set_option linter.unusedVariables false
/-- How often each slot has been met. -/
def cntV (s : Nat) (M : List Int) : List Value := (List.range s).map fun (i : Nat) => .int .i64 ((M.count (i : Int) : Nat) : Int)
theorem cntV_nil (s : Nat) : cntV s [] = List.replicate s (.int .i64 0) := by
  apply List.ext_getElem
  · simp [cntV]
  · intro i h1 h2
    simp [cntV]
theorem cntV_at {s p : Nat} {M : List Int} (h : p < s) : (cntV s M)[p]? = some (.int .i64 ((M.count (p : Int) : Nat) : Int)) := by
  unfold cntV
  rw [List.getElem?_map, List.getElem?_range h]
  rfl
theorem cntV_on (s p : Nat) (M : List Int) : (cntV s M).set p (.int .i64 (((M.count (p : Int) : Nat) : Int) + 1)) = cntV s (M ++ [(p : Int)]) := by
  apply List.ext_getElem
  · simp [cntV]
  · intro i h1 h2
    rw [List.getElem_set]
    simp only [cntV, List.getElem_map, List.getElem_range, List.count_append, List.count_singleton]
    by_cases e : p = i
    · subst e
      simp
    · rw [if_neg e, if_neg (by simp; omega)]
      simp
theorem cntV_neg (s : Nat) (M : List Int) {z : Int} (hz : z < 0) : cntV s (M ++ [z]) = cntV s M := by
  apply List.ext_getElem
  · simp [cntV]
  · intro i h1 h2
    simp only [cntV, List.getElem_map, List.getElem_range, List.count_append, List.count_singleton]
    rw [if_neg (by simp; omega)]
    simp
theorem take_on {L : List Int} {k : Nat} (h : k < L.length) : L.take (k + 1) = L.take k ++ [L.getD k 0] := by
  rw [List.take_add_one, List.getD_eq_getElem?_getD, List.getElem?_eq_getElem h]
  rfl
theorem make_ints9 (n : Nat) (hc : n ≤ 1000000000) (W : World) :
    (Instr.makeSlice 26 (.int .i64 (n : Int)) (.int .i64 (n : Int))).run Try.prog W = .ok (.slice (some ⟨W.heap.size, 0, none⟩) n n) (W.alloc (.cells (madeCells #[.int .i64 0] n) 3)) := by
  obtain ⟨i, hi, hz0, hz1, hz2⟩ := info_one int_info
  have h := run_makeInts (k := .u8) Try.underlying26 hi hz0 hz1 n n (Nat.le_refl _) (by rw [hz2]; omega) (by unfold maxLen; omega) W
  rw [Nat.mul_one] at h
  exact h
theorem made_ints9 (n : Nat) : madeCells #[.int .i64 0] n = (List.replicate n (Value.int .i64 0)).toArray := by
  apply Array.ext
  · simp [madeCells]
  · intro i h1 h2
    simp [madeCells, Nat.mod_one]
section
variable {Q : Nat → Prop} {wb w0 w : World} {gm gl gh : Nat} {dv pv : Value} {st : MSt} {F : Nat → Int}
set_option maxRecDepth 100000 in
set_option maxHeartbeats 8000000 in
theorem once_ok (h : IsMem Q wb w0 w gm dv pv st) (ok : Okay F) (hl : Blk w gl 138 (cellsF F)) (hF : F 22 = -2) (s : Nat) (hs : F 1 = s) (s1 : s ≤ 30) (L : List Int) (hL : freeList F s st = (L, true)) (hr : ∀ i, i < L.length → 0 ≤ L.getD i 0 ∧ L.getD i 0 < (s : Int)) (hn : L.length ≤ 1000)
    {cs : List Value} {zs : List Int} {T : Nat} (hb : Blk w gh 48 cs) (hz : zs.length = T) (hT : T ≤ 1000) (hcs : ∀ i, i < T → cs[i * 3 + 2]? = some (.int .i64 (zs.getD i 0))) (hzr : ∀ i, i < T → -1 ≤ zs.getD i 0 ∧ zs.getD i 0 < (s : Int))
    (hc : ∀ k : Nat, k < s → L.count (k : Int) + zs.count (k : Int) = 1) :
    Calls Try.prog 22 #[.pointer (some ⟨gl, 0, none⟩), .pointer (some ⟨gm, 0, none⟩), .slice (some ⟨gh, 0, none⟩) T T, .int .i64 s] w fun e w' => e = .returned (.bool true) ∧ Ext w w' := by
  have HLi0 := freeList_ok h ok hl hF s hs (by omega)
  rw [hL] at HLi0
  have HLi := Lib.hid HLi0
  have HB := Lib.hid hb
  have HC := Lib.hid hc
  have HCs := Lib.hid hcs
  have HZr := Lib.hid hzr
  have HR := Lib.hid hr
  have HZl := Lib.hid hz
  have hmk := fun W => make_ints9 s (by omega) W
  have HMd := Lib.hid (made_ints9 s)
  generalize madeCells #[.int .i64 0] s = MW at *
  obtain ⟨n, hnL⟩ : ∃ n, L.length = n := ⟨_, rfl⟩
  have HLn := Lib.hid hnL
  rw [hnL] at hn
  clear HLi0 h ok hl hF hs hL hr hb hz hcs hzr hc hnL
  go_enter Try.func22, Try.ntmps22
  go_wp2_with fail
  refine HLi.out.mono ?_
  rintro e w1 ⟨va, rfl, ra, x1⟩
  obtain ⟨Aa, ca, rfl, ia, hbig⟩ := row_at ra
  rw [HLn.out] at hbig
  rw [HLn.out]
  have IA := Lib.hid ia
  have X1 := Lib.hid x1
  have B1 := Lib.hid (HB.out.ext x1)
  clear ra ia x1 HLi HB
  go_wp2_with fail
  have B2 : Hid (Blk (w1.alloc (.cells MW 3)) w1.heap.size 3 (cntV s [])) := Lib.hid (by have := Blk.new w1 3 (List.replicate s (Value.int .i64 0)); rw [← HMd.out] at this; rw [cntV_nil]; exact this)
  have X2 := Lib.hid ((Ext.refl w1).alloc (.cells MW 3))
  generalize w1.alloc (.cells MW 3) = w2 at *
  have G2 : Hid (w1.heap.size ≤ w1.heap.size) := Lib.hid (Nat.le_refl _)
  obtain ⟨gc, hgc⟩ : ∃ gc, w1.heap.size = gc := ⟨_, rfl⟩
  rw [hgc] at B2 G2
  have HGc := Lib.hid hgc
  rw [hgc]
  clear hmk HMd hgc
  go_loopw [12] (fun i wr => ∃ k : Nat, k ≤ n ∧ i = .int .i64 k ∧ Ext w1 wr ∧ Blk wr gc 3 (cntV s (L.take k))) (fun i _ => n - (intOf i).toNat)
  case atStart => exact ⟨0, Nat.zero_le _, rfl, X2.out, by rw [List.take_zero]; exact B2.out⟩
  case round =>
    obtain ⟨k, hk, rfl, xk, bk⟩ := hrel
    have XK := Lib.hid xk
    have BK := Lib.hid bk
    clear xk bk X2 B2
    by_cases hlt : k < n
    · have v1 : decide (k < n) = true := by simp; omega
      obtain ⟨ad, hAd, _, hcc⟩ := (IA.out.ext XK.out) (by have := HLn.out; omega)
      have p0 := hcc k (by have := HLn.out; omega)
      have zr := HR.out k (by have := HLn.out; omega)
      have HTk := Lib.hid (take_on (L := L) (k := k) (by have := HLn.out; omega))
      obtain ⟨z, hz⟩ : ∃ z, L.getD k 0 = z := ⟨_, rfl⟩
      rw [hz] at p0 zr HTk
      obtain ⟨p, rfl⟩ := Int.eq_ofNat_of_zero_le zr.1
      subst hAd
      clear hcc hz
      have hps : p < s := by omega
      have d1 : decide (s ≤ p) = false := by simp; omega
      have d2 : decide ((s : Int) ≤ (p : Int)) = false := by simp; omega
      have d3 : decide ((p : Int) < 0) = false := by simp
      obtain ⟨c, hc⟩ : ∃ c, (L.take k).count (p : Int) = c := ⟨_, rfl⟩
      have hcb : c ≤ 1000 := by
        have h1 : (L.take k).count (p : Int) ≤ (L.take k).length := List.count_le_length
        rw [List.length_take] at h1
        omega
      have y0 : wr.cell? ⟨gc, p, none⟩ = some (.int .i64 (c : Int)) := by rw [BK.out.cell, cntV_at hps, hc]
      have z0 : wr.frozen? ⟨gc, p, none⟩ = false := BK.out.frozen p
      have wc : IntKind.i64.wrap ((c : Int) + 1) = (c : Int) + 1 := i64w _ (by omega) (by omega)
      have BN := Lib.hid (BK.out.set p (.int .i64 ((c : Int) + 1)))
      have HE : Hid ((cntV s (L.take k)).set p (.int .i64 ((c : Int) + 1)) = cntV s (L.take (k + 1))) := Lib.hid (by rw [HTk.out, ← cntV_on, hc])
      rw [HE.out] at BN
      have XN : Hid (Ext w1 (wr.setCell ⟨gc, p, none⟩ (.int .i64 ((c : Int) + 1)))) := Lib.hid (XK.out.setCell (p := ⟨gc, p, none⟩) (by rw [HGc.out]; exact Nat.le_refl _) _)
      clear hc
      go_wp2_with fail
      go_roundw
      case rel => exact ⟨k + 1, by omega, by go_num, XN.out, BN.out⟩
      case measure => simp [intOf]; omega
    · have v1 : decide (k < n) = false := by simp; omega
      obtain rfl : k = n := by omega
      have B3 : Hid (Blk wr gc 3 (cntV s (L ++ zs.take 0))) := Lib.hid (by
        have := BK.out
        rw [List.take_of_length_le (by have := HLn.out; omega)] at this
        rw [List.take_zero, List.append_nil]
        exact this)
      have X3 := Lib.hid XK.out
      clear BK XK IA HR
      go_wp2_with fail
      generalize wr = w3 at *
      go_loopw [13] (fun i wr => ∃ j : Nat, j ≤ T ∧ i = .int .i64 j ∧ Ext w1 wr ∧ Blk wr gc 3 (cntV s (L ++ zs.take j))) (fun i _ => T - (intOf i).toNat)
      case atStart => exact ⟨0, Nat.zero_le _, rfl, X3.out, B3.out⟩
      case round =>
        obtain ⟨j, hj, rfl, xj, bj⟩ := hrel
        have XJ := Lib.hid xj
        have BJ := Lib.hid bj
        clear xj bj X3 B3
        by_cases hjt : j < T
        · have v2 : decide (j < T) = true := by simp; omega
          have p1 : wr.cell? ⟨gh, j * 3 + 2, none⟩ = some (.int .i64 (zs.getD j 0)) := by rw [(B1.out.ext XJ.out).cell, HCs.out j hjt]
          have zr := HZr.out j hjt
          have HTk := Lib.hid (take_on (L := zs) (k := j) (by have := HZl.out; omega))
          obtain ⟨z, hz⟩ : ∃ z, zs.getD j 0 = z := ⟨_, rfl⟩
          rw [hz] at p1 zr HTk
          have HTa : Hid (L ++ zs.take (j + 1) = (L ++ zs.take j) ++ [z]) := Lib.hid (by rw [HTk.out, List.append_assoc])
          clear hz
          have d2 : decide ((s : Int) ≤ z) = false := by simp; omega
          by_cases hneg : z < 0
          · have d3 : decide (0 ≤ z) = false := by simp; omega
            have BN : Hid (Blk wr gc 3 (cntV s (L ++ zs.take (j + 1)))) := Lib.hid (by rw [HTa.out, cntV_neg s _ hneg]; exact BJ.out)
            go_wp2_with fail
            go_roundw
            case rel => exact ⟨j + 1, by omega, by go_num, XJ.out, BN.out⟩
            case measure => simp [intOf]; omega
          · obtain ⟨p, rfl⟩ := Int.eq_ofNat_of_zero_le (show 0 ≤ z by omega)
            have hps : p < s := by omega
            have d2' : decide (s ≤ p) = false := by simp; omega
            have d3 : decide (0 ≤ (p : Int)) = true := by simp
            obtain ⟨c, hc⟩ : ∃ c, (L ++ zs.take j).count (p : Int) = c := ⟨_, rfl⟩
            have hcb : c ≤ 3000 := by
              have h1 : (L ++ zs.take j).count (p : Int) ≤ (L ++ zs.take j).length := List.count_le_length
              rw [List.length_append, List.length_take] at h1
              have := HLn.out
              omega
            have y0 : wr.cell? ⟨gc, p, none⟩ = some (.int .i64 (c : Int)) := by rw [BJ.out.cell, cntV_at hps, hc]
            have z0 : wr.frozen? ⟨gc, p, none⟩ = false := BJ.out.frozen p
            have wc : IntKind.i64.wrap ((c : Int) + 1) = (c : Int) + 1 := i64w _ (by omega) (by omega)
            have BN := Lib.hid (BJ.out.set p (.int .i64 ((c : Int) + 1)))
            have HE : Hid ((cntV s (L ++ zs.take j)).set p (.int .i64 ((c : Int) + 1)) = cntV s (L ++ zs.take (j + 1))) := Lib.hid (by rw [HTa.out, ← cntV_on, hc])
            rw [HE.out] at BN
            have XN : Hid (Ext w1 (wr.setCell ⟨gc, p, none⟩ (.int .i64 ((c : Int) + 1)))) := Lib.hid (XJ.out.setCell (p := ⟨gc, p, none⟩) (by rw [HGc.out]; exact Nat.le_refl _) _)
            clear hc hneg
            go_wp2_with fail
            go_roundw
            case rel => exact ⟨j + 1, by omega, by go_num, XN.out, BN.out⟩
            case measure => simp [intOf]; omega
        · have v2 : decide (j < T) = false := by simp; omega
          obtain rfl : j = T := by omega
          have B4 : Hid (Blk wr gc 3 (cntV s (L ++ zs))) := Lib.hid (by
            have := BJ.out
            rw [List.take_of_length_le (by have := HZl.out; omega)] at this
            exact this)
          have X4 := Lib.hid XJ.out
          clear BJ XJ HZr HCs
          go_wp2_with fail
          generalize wr = w4 at *
          go_loopw [15] (fun i wr => ∃ p : Nat, p ≤ s ∧ i = .int .i64 p ∧ Ext w4 wr) (fun i _ => s - (intOf i).toNat)
          case atStart => exact ⟨0, Nat.zero_le _, rfl, Ext.refl _⟩
          case round =>
            obtain ⟨p, hp, rfl, xp⟩ := hrel
            have XP := Lib.hid xp
            clear xp
            by_cases hps : p < s
            · have v3 : decide (p < s) = true := by simp; omega
              have y0 : wr.cell? ⟨gc, p, none⟩ = some (.int .i64 1) := by
                rw [(B4.out.ext XP.out).cell, cntV_at hps, List.count_append, HC.out p hps]
                rfl
              go_wp2_with fail
              go_roundw
              case rel => exact ⟨p + 1, by omega, by go_num, XP.out⟩
              case measure => simp [intOf]; omega
            · have v3 : decide (p < s) = false := by simp; omega
              go_wp2_with fail
              go_ret
              exact ⟨rfl, (X1.out.trans X4.out).trans XP.out⟩
end
end Go.Proofs.Ytfbobdkfibhcnaa
