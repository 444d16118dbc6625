/- The page's example of lines; what Cut and Image answer to what is no lines; Same. Conditions: those that each theorem names. -/
import Derived.Test.YtcelhllhdkminaaLineFns3
namespace Go.Proofs.Ytcelhllhdkminaa
open Go.ChangeShapes Go.WideShapes Go.ChangeAt Go.RowKit
set_option linter.unusedVariables false
theorem lim_eg : Lim [1, 256, 0, 0, 0, 0, 0, 0] 18446744073709551616 := LM.lim_of (by decide)
set_option maxRecDepth 100000 in
set_option maxHeartbeats 400000 in
theorem gatherW_form (A : Option Addr) (n c : Nat) (hn : n ≤ 9223372036854775807) (h : n % 8 ≠ 0) (w : World) :
    Calls Try.prog 100 #[.slice A n c, .int .i64 8, .func (.func 101) #[] #[]] w fun e w' => e = .returned (.tuple #[.slice none 0 0, .int .i64 3]) ∧ Ext w w' := by
  have c1 : (((n : Int) % 8) != 0) = true := by rw [bne_iff_ne]; omega
  go_enter Try.func100, Try.ntmps100
  go_wp2_with fail
  go_ret2
  exact ⟨rfl, (Ext.refl w).alloc _⟩
set_option maxRecDepth 100000 in
set_option maxHeartbeats 400000 in
theorem gatherW_long (A : Option Addr) (n c : Nat) (hn : n ≤ 9223372036854775807) (h : n % 8 = 0) (h2 : 262144 < n / 8) (w : World) :
    Calls Try.prog 100 #[.slice A n c, .int .i64 8, .func (.func 101) #[] #[]] w fun e w' => e = .returned (.tuple #[.slice none 0 0, .int .i64 2]) ∧ Ext w w' := by
  have c1 : (((n : Int) % 8) != 0) = false := by rw [bne_eq_false_iff_eq]; omega
  have c2 : decide (262144 < (n : Int) / 8) = true := by simp; omega
  clear h h2
  go_enter Try.func100, Try.ntmps100
  go_wp2_with fail
  go_ret2
  exact ⟨rfl, (Ext.refl w).alloc _⟩
set_option maxHeartbeats 400000 in
theorem cut_form (A : Option Addr) (n c : Nat) (hn : n ≤ 9223372036854775807) (h : n % 8 ≠ 0) (w : World) :
    Calls Try.prog 73 #[.slice A n c] w fun e w' => e = .returned (.tuple #[.slice none 0 0, .int .i64 3]) ∧ Ext w w' := by
  have HC := Lib.hid (gatherW_form A n c hn h w)
  clear h
  go_enter Try.func73, Try.ntmps73
  go_wp2_with fail
  refine HC.out.mono ?_
  rintro e w' ⟨rfl, hx⟩
  go_wp2_with fail
  go_ret2
  exact ⟨rfl, hx⟩
set_option maxHeartbeats 400000 in
theorem cut_long (A : Option Addr) (n c : Nat) (hn : n ≤ 9223372036854775807) (h : n % 8 = 0) (h2 : 262144 < n / 8) (w : World) :
    Calls Try.prog 73 #[.slice A n c] w fun e w' => e = .returned (.tuple #[.slice none 0 0, .int .i64 2]) ∧ Ext w w' := by
  have HC := Lib.hid (gatherW_long A n c hn h h2 w)
  clear h h2
  go_enter Try.func73, Try.ntmps73
  go_wp2_with fail
  refine HC.out.mono ?_
  rintro e w' ⟨rfl, hx⟩
  go_wp2_with fail
  go_ret2
  exact ⟨rfl, hx⟩
theorem retb {a b : Bool} (h : a = b) : Ending.returned (.bool a) = .returned (.bool b) := by rw [h]
theorem drewN_ext (w : World) (n : Nat) : Ext w (w.drewN n) := ⟨rfl, rfl, rfl, Nat.le_refl _, fun _ _ => rfl⟩
set_option maxRecDepth 100000 in
set_option maxHeartbeats 400000 in
theorem same_any (A A' : Option Addr) (c c' : Nat) (xs ys : List Int) (w : World) (hx : xs.length ≤ 1000000000) (hA : Ints w .u64 A xs) (hA' : Ints w .u64 A' ys) :
    Calls Try.prog 50 #[.slice A xs.length c, .slice A' ys.length c'] w fun e w' => e = .returned (.bool (decide (xs = ys))) ∧ ∃ n, w' = w.drewN n := by
  by_cases hl : xs.length = ys.length
  · have c1 : ((xs.length : Int) != (ys.length : Int)) = false := by rw [bne_eq_false_iff_eq]; omega
    have c1' : (xs.length != ys.length) = false := by rw [bne_eq_false_iff_eq]; omega
    have HL := Lib.hid hl
    clear hl
    go_enter Try.func50, Try.ntmps50
    go_wp2_with fail
    go_loopw [5] (fun i wr => ∃ k : Nat, k ≤ xs.length ∧ i = .int .i64 k ∧ xs.take k = ys.take k ∧ ∃ n, wr = w.drewN n) (fun i _ => xs.length - (intOf i).toNat)
    case atStart => exact ⟨0, Nat.zero_le _, rfl, rfl, 0, rfl⟩
    case round =>
      obtain ⟨k, hk, rfl, hpre, nd, rfl⟩ := hrel
      have HP := Lib.hid hpre
      clear hpre
      by_cases hlt : k < xs.length
      · have hd : decide (k < xs.length) = true := by simp; omega
        obtain ⟨ad, rfl, hb, hc⟩ := hA (by omega)
        obtain ⟨bd, rfl, hb', hc'⟩ := hA' (by have := HL.out; omega)
        have hcell := hc k hlt
        have hcell' := hc' k (by have := HL.out; omega)
        clear hc hc'
        have hk2 : k < ys.length := by have := HL.out; omega
        obtain ⟨x, hxk, hxt⟩ := take_step xs k hlt
        obtain ⟨y, hyk, hyt⟩ := take_step ys k hk2
        rw [hxk] at hcell
        rw [hyk] at hcell'
        clear hxk hyk
        have HX := Lib.hid hxt
        have HY := Lib.hid hyt
        clear hxt hyt
        by_cases hxy : x = y
        · have t1 : (x != y) = false := by rw [bne_eq_false_iff_eq]; exact hxy
          have HXY := Lib.hid hxy
          clear hxy
          go_wp2_with fail
          go_quiet (fail)
          go_wp2_with fail
          go_roundw
          case rel => exact ⟨k + 1, by omega, by go_num, by rw [HX.out, HY.out, HP.out, HXY.out], _, rfl⟩
          case measure => simp [intOf]; omega
        · have t1 : (x != y) = true := by rw [bne_iff_ne]; exact hxy
          have HF : decide (xs = ys) = false := by
            simp; intro h
            have h2 := HX.out
            rw [h, HY.out, ← h, HP.out] at h2
            have := List.append_cancel_left h2
            simp at this
            exact hxy this.symm
          have HH := Lib.hid HF
          clear HF hxy
          go_wp2_with fail
          go_quiet (fail)
          go_wp2_with fail
          go_ret
          exact ⟨retb HH.out.symm, _, World.drewN_drewN _ _ _⟩
      · have hd : decide (k < xs.length) = false := by simp; omega
        go_wp2_with fail
        go_ret
        refine ⟨retb ?_, _, rfl⟩
        have : xs = ys := by
          have h := HP.out
          rwa [List.take_of_length_le (by omega), List.take_of_length_le (by have := HL.out; omega)] at h
        exact (decide_eq_true this).symm
  · have c1 : ((xs.length : Int) != (ys.length : Int)) = true := by rw [bne_iff_ne]; omega
    have c1' : (xs.length != ys.length) = true := by rw [bne_iff_ne]; omega
    have HF : decide (xs = ys) = false := by simp; intro h; exact hl (by rw [h])
    clear hl
    have HH := Lib.hid HF
    clear HF
    go_enter Try.func50, Try.ntmps50
    go_wp2_with fail
    go_ret
    exact ⟨retb HH.out.symm, 0, rfl⟩
end Go.Proofs.Ytcelhllhdkminaa
