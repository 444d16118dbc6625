/- What each function of package sum answers: the state behind a bit, a byte, a word, bytes, words. Conditions: each argument lies in its type; a slice reads as the list that is named. -/
import Derived.Test.YtljleibhncidmaaInts
import Derived.Test.YtljleibhncidmaaSumMath
import Derived.Lib.SlBytesConst
namespace Go.Proofs.Ytljleibhncidmaa
open Go.ChangeShapes Go.WideShapes Go.ChangeAt Go.RowKit
set_option linter.unusedVariables false

theorem reti {k : IntKind} {a b : Int} (h : a = b) : Ending.returned (.int k a) = .returned (.int k b) := by rw [h]

theorem bit_any (s b : Nat) (hs : s < 4294967296) (hb : b < 2) (w : World) :
    Calls Try.prog 72 #[.int .u32 (s : Int), .int .u32 (b : Int)] w fun e w' => e = .returned (.int .u32 (SM.stepN s b : Nat)) ∧ w = w' := by
  go_enter Try.func72, Try.ntmps72
  go_wp2
  go_ret
  exact ⟨reti (SM.bit_of s b hs hb), rfl⟩

set_option maxHeartbeats 400000 in
theorem low_any (s x n : Nat) (hs : s < 4294967296) (hx : x < 18446744073709551616) (hn : n ≤ 64) (w : World) :
    Calls Try.prog 70 #[.int .u32 (s : Int), .int .u64 (x : Int), .int .i64 (n : Int)] w fun e w' => e = .returned (.int .u32 (SM.lowN s x n : Nat)) ∧ w = w' := by
  go_enter Try.func70, Try.ntmps70
  go_wp2
  go_loop [0, 9] (fun t i => ∃ k : Nat, k ≤ n ∧ i = .int .i64 k ∧ t = .int .u32 (SM.lowN s x k : Nat)) (fun _ i => n - (intOf i).toNat)
  case atStart => exact ⟨0, Nat.zero_le _, rfl, rfl⟩
  case round =>
    obtain ⟨k, hk, rfl, rfl⟩ := hrel
    have hl := SM.low_lt s x k hs
    by_cases hlt : k < n
    · go_wp2_with fail
      rw [SM.low_bit x k]
      refine (bit_any _ _ hl (Nat.mod_lt _ (by omega)) _).mono ?_
      rintro e w' ⟨rfl, rfl⟩
      go_wp2_with fail
      go_round
      case rel => exact ⟨k + 1, by omega, by go_num, rfl⟩
      case measure => simp [intOf]; omega
    · go_wp2_with fail
      go_ret
      exact ⟨reti (by rw [show k = n from by omega]), rfl⟩

theorem word_any (s x : Nat) (hs : s < 4294967296) (hx : x < 18446744073709551616) (w : World) :
    Calls Try.prog 63 #[.int .u32 (s : Int), .int .u64 (x : Int)] w fun e w' => e = .returned (.int .u32 (SM.wordN s x : Nat)) ∧ w = w' := by
  go_enter Try.func63, Try.ntmps63
  go_wp2_with fail
  refine (low_any s x 64 hs hx (by omega) _).mono ?_
  rintro e w' ⟨rfl, rfl⟩
  go_wp2_with fail
  go_ret
  exact ⟨rfl, rfl⟩

theorem begin_any (w : World) : Calls Try.prog 62 #[] w fun e w' => e = .returned (.int .u32 ((4294967295 : Nat) : Int)) ∧ w = w' := by
  go_enter Try.func62, Try.ntmps62
  go_wp2_with fail
  go_ret
  exact ⟨rfl, rfl⟩

theorem end_any (s : Nat) (hs : s < 4294967296) (w : World) : Calls Try.prog 64 #[.int .u32 (s : Int)] w fun e w' => e = .returned (.int .u32 ((4294967295 - s : Nat) : Int)) ∧ w = w' := by
  go_enter Try.func64, Try.ntmps64
  go_wp2_with fail
  go_ret
  exact ⟨reti (SM.end_of s hs), rfl⟩

set_option maxHeartbeats 400000 in
theorem words_any (A : Option Addr) (c : Nat) (zs : List Int) (w : World) (hl : zs.length ≤ 9223372036854775807) (hz : Lim zs 18446744073709551616) (hA : Ints w .u64 A zs) :
    Calls Try.prog 53 #[.slice A zs.length c] w fun e w' => e = .returned (.int .u32 (SM.sumOfWords zs : Nat)) ∧ w = w' := by
  go_enter Try.func53, Try.ntmps53
  go_wp2_with fail
  refine (begin_any _).mono ?_
  rintro e w' ⟨rfl, rfl⟩
  go_wp2_with fail
  go_loop [3, 9] (fun t i => ∃ k : Nat, k ≤ zs.length ∧ i = .int .i64 k ∧ t = .int .u32 (SM.wordsN 4294967295 ((zs.map Int.toNat).take k) : Nat)) (fun _ i => zs.length - (intOf i).toNat)
  case atStart => exact ⟨0, Nat.zero_le _, rfl, rfl⟩
  case round =>
    obtain ⟨k, hk, rfl, rfl⟩ := hrel
    have hs := SM.words_lt ((zs.map Int.toNat).take k) 4294967295 (by omega)
    by_cases hlt : k < zs.length
    · obtain ⟨ad, rfl, hb, hc⟩ := hA (by omega)
      have hcell := hc k hlt
      have hzk := hz k hlt
      clear hc
      obtain ⟨b, hbe⟩ := Int.eq_ofNat_of_zero_le hzk.1
      have H := Lib.hid (SM.words_take zs k hlt)
      rw [hbe] at hcell hzk H
      clear hbe
      go_wp2_with fail
      refine (word_any _ _ hs (by omega) _).mono ?_
      rintro e w' ⟨rfl, rfl⟩
      go_wp2_with fail
      go_round
      case rel => exact ⟨k + 1, by omega, by go_num, by rw [H.out]; rfl⟩
      case measure => simp [intOf]; omega
    · go_wp2_with fail
      refine (end_any _ hs _).mono ?_
      rintro e w' ⟨rfl, rfl⟩
      go_wp2_with fail
      go_ret
      refine ⟨reti ?_, rfl⟩
      rw [List.take_of_length_le (by simp; omega)]
      rfl

theorem hello : SM.sumOf [49, 50, 51, 52, 53, 54, 55, 56, 57] = 3808858755 := by decide +kernel
theorem hello_cells (w : World) : Ints (w.alloc (.cells #[.int .u8 49, .int .u8 50, .int .u8 51, .int .u8 52, .int .u8 53, .int .u8 54, .int .u8 55, .int .u8 56, .int .u8 57] 5 (9, 10))) .u8 (some ⟨w.heap.size, 0, none⟩) [49, 50, 51, 52, 53, 54, 55, 56, 57] := fun _ => by
  refine ⟨_, rfl, by simp, fun j hj => ?_⟩
  have hj' : j < 9 := hj
  have h : (⟨w.heap.size, 0, none⟩ : Addr).add j = ⟨w.heap.size, j, none⟩ := by unfold Addr.add; split <;> simp_all
  rw [h, cell_of_row _ _ _ _ _ _ (heap_alloc_new w _)]
  match j, hj' with
  | 0, _ => rfl
  | 1, _ => rfl
  | 2, _ => rfl
  | 3, _ => rfl
  | 4, _ => rfl
  | 5, _ => rfl
  | 6, _ => rfl
  | 7, _ => rfl
  | 8, _ => rfl
theorem hello_lim : Lim [49, 50, 51, 52, 53, 54, 55, 56, 57] 256 := by
  intro j hj
  have hj' : j < 9 := hj
  match j, hj' with
  | 0, _ => decide
  | 1, _ => decide
  | 2, _ => decide
  | 3, _ => decide
  | 4, _ => decide
  | 5, _ => decide
  | 6, _ => decide
  | 7, _ => decide
  | 8, _ => decide
theorem words_none (w : World) : Calls Try.prog 53 #[.slice none 0 0] w fun e w' => e = .returned (.int .u32 0) ∧ w = w' :=
  (words_any none 0 [] w (by decide) (none_lim _) (Ints.none _ _ _)).mono fun _ _ ⟨he, hw⟩ => ⟨by rw [he, show SM.sumOfWords [] = 0 from by decide]; rfl, hw⟩

end Go.Proofs.Ytljleibhncidmaa
