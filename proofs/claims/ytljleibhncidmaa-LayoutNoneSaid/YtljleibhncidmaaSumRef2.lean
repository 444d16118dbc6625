/- What the reference's sums of bytes and of words answer. Conditions: each argument lies in its type; a slice reads as the list that is named, of up to 10000. -/
import Derived.Test.YtljleibhncidmaaSumRef
import Derived.Test.YtljleibhncidmaaArgs
namespace Go.Proofs.Ytljleibhncidmaa
open Go.ChangeShapes Go.WideShapes Go.ChangeAt Go.RowKit
set_option linter.unusedVariables false

theorem byte_info : (Try.prog.info? 5).map (fun i => (i.zero, i.size, i.bytes)) = some (some (.int .u8 0), 1, 1) := by kernel_rfl

namespace SM
theorem nats_take (l : List Int) (k : Nat) (h : k < l.length) : (l.map Int.toNat).take (k + 1) = (l.map Int.toNat).take k ++ [(l.getD k 0).toNat] := by
  rw [List.take_succ_eq_append_getElem (by simpa using h)]
  simp [List.getD_eq_getElem?_getD, h]
theorem bitsAll_lim (l : List Nat) : Lim (bitsAll l) 2 := by
  induction l with
  | nil => exact none_lim 2
  | cons b l ih =>
    intro j hj
    unfold bitsAll at hj ⊢
    rw [List.length_append] at hj
    by_cases h : j < (bitsOf b 8).length
    · rw [List.getD_eq_getElem?_getD, List.getElem?_append_left h, ← List.getD_eq_getElem?_getD]
      exact bits_lim b 8 j h
    · rw [List.getD_eq_getElem?_getD, List.getElem?_append_right (by omega), ← List.getD_eq_getElem?_getD]
      exact ih _ (by omega)
end SM

set_option maxHeartbeats 1000000 in
theorem rbytes_any (A : Option Addr) (c : Nat) (zs : List Int) (w : World) (hlen : zs.length ≤ 10000) (hz : Lim zs 256) (hA : Ints w .u8 A zs) :
    Calls Try.prog 54 #[.slice A zs.length c] w fun e w' => e = .returned (.int .u32 (SM.sumOf zs : Nat)) ∧ Ext w w' := by
  go_enter Try.func54, Try.ntmps54
  go_wp2
  go_loopw [3, 4] (fun v i wr => ∃ k : Nat, k ≤ zs.length ∧ i = .int .i64 k ∧ Row wr w.heap.size 3 .i64 v (SM.bitsAll ((zs.map Int.toNat).take k)) ∧ Ext w wr) (fun _ i _ => zs.length - (intOf i).toNat)
  case atStart => exact ⟨0, Nat.zero_le _, rfl, Row.nil _ _ _ _, Ext.refl _⟩
  case round =>
    obtain ⟨k, hk, rfl, hrow, hext⟩ := hrel
    by_cases hlt : k < zs.length
    · obtain ⟨ad, rfl, hb, hc⟩ := (hA.ext hext) (by omega)
      have hcell := hc k hlt
      have hzk := hz k hlt
      clear hc
      have HT := Lib.hid (SM.nats_take zs k hlt)
      obtain ⟨b, hbe⟩ := Int.eq_ofNat_of_zero_le hzk.1
      rw [hbe] at hcell hzk HT
      clear hbe
      have HL := Lib.hid (SM.bitsAll_length ((zs.map Int.toNat).take k))
      have hkl : ((zs.map Int.toNat).take k).length ≤ 10000 := by rw [List.length_take, List.length_map]; omega
      generalize (zs.map Int.toNat).take k = L at *
      go_wp2_with fail
      refine (rbits_any b 8 (by omega) (by omega) _).mono ?_
      rintro e w1 ⟨v1, rfl, hrow1, hx1⟩
      obtain ⟨g, c1, rfl, hg, hgl, _⟩ := hrow1.at_ (SM.bitsOf_length _ _) (by omega)
      have hcb := hrow1.cells (F := SM.Bt b) (SM.bitsOf_length _ _) (fun j hj => SM.bitsOf_get _ _ _ hj)
      have hoff := hrow.off hg
      have hrowA := hrow.ext hx1
      have hextA := hext.trans hx1
      clear hrow hext hrow1
      generalize wr = w0 at *
      go_wp2_with fail
      go_loopw [3, 6] (fun v i wr => ∃ m : Nat, m ≤ 8 ∧ i = .int .i64 m ∧ Row wr w.heap.size 3 .i64 v (SM.bitsAll L ++ SM.bitsOf b m) ∧ Ext w wr ∧ Cells wr g 8 (SM.Bt b) ∧ v.ownBlock ≠ some g ∧ g < wr.heap.size) (fun _ i _ => 8 - (intOf i).toNat)
      case atStart => exact ⟨0, Nat.zero_le _, rfl, by simpa [SM.bitsOf] using hrowA, hextA, hcb, hoff, hgl⟩
      case round =>
        clear hrowA hextA hcb hoff hgl
        obtain ⟨m, hm, rfl, hrow, hext, hcb, hoff, hgl⟩ := hrel
        by_cases hltm : m < 8
        · have hcb1 := (hcb m hltm).1
          have HM := Lib.hid (show SM.bitsAll L ++ SM.bitsOf b (m + 1) = (SM.bitsAll L ++ SM.bitsOf b m) ++ [((SM.Bt b m : Nat) : Int)] from by rw [List.append_assoc]; rfl)
          generalize SM.Bt b m = y at hcb1 HM
          go_wp2_with ((at_builtin; refine Hid.out ?_))
          refine Lib.hid ?_
          refine wpList_pushOff rfl _ _ 77 rfl 3 .i64 8 int_info (by omega) Try.underlying77 w wr _ (SM.bitsAll L ++ SM.bitsOf b m) (y : Int) (by rfl) hrow hext (by rfl) (by rw [List.length_append, HL.out, SM.bitsOf_length]; omega) ?_
          intro v' w' hrow' hext' hoff'
          obtain ⟨ho1, ho2⟩ := hoff' g hgl hoff
          have hcb' := hcb.of_block ho1
          have hgl' : g < w'.heap.size := by
            rcases Nat.lt_or_ge g w'.heap.size with h | h
            · exact h
            · have h2 := (hcb' 0 (by omega)).1
              simp [World.cell?, Array.getElem?_eq_none h] at h2
          clear ho1 hoff'
          go_wp2_with fail
          go_roundw
          case rel => exact ⟨m + 1, by omega, by go_num, by rw [HM.out]; exact hrow', hext', hcb', ho2, hgl'⟩
          case measure => simp [intOf]; omega
        · have e : m = 8 := by omega
          rw [e] at hrow
          clear e
          go_wp2_with fail
          go_roundw
          case rel => exact ⟨k + 1, by omega, by go_num, by rw [HT.out, SM.bitsAll_snoc]; exact hrow, hext⟩
          case measure => simp [intOf]; omega
    · have e : (zs.map Int.toNat).take k = zs.map Int.toNat := List.take_of_length_le (by simp; omega)
      rw [e] at hrow
      clear e
      obtain ⟨A2, c2, rfl, hI, _⟩ := hrow.form
      have hS := SM.stAt_lt 4294967295 (SM.bitsAll (zs.map Int.toNat)) (SM.bitsAll (zs.map Int.toNat)).length (by omega)
      have HS := Lib.hid (show SM.stAt 4294967295 (SM.bitsAll (zs.map Int.toNat)) (SM.bitsAll (zs.map Int.toNat)).length = SM.bytesN 4294967295 (zs.map Int.toNat) from by rw [SM.stAt_fold, SM.bitsAll_fold])
      go_wp2_with fail
      refine (rest_any 4294967295 A2 c2 _ _ (by omega) (by rw [SM.bitsAll_length, List.length_map]; omega) (SM.bitsAll_lim _) hI).mono ?_
      rintro e w2 ⟨rfl, hx2⟩
      generalize SM.stAt 4294967295 (SM.bitsAll (zs.map Int.toNat)) (SM.bitsAll (zs.map Int.toNat)).length = X at *
      go_wp2_with fail
      go_ret
      refine ⟨reti ?_, hext.trans hx2⟩
      unfold SM.sumOf
      rw [← HS.out]
      omega

namespace SM
def ints (l : List Nat) : List Int := l.map (fun n : Nat => (n : Int))
theorem ints_nats (l : List Nat) : (ints l).map Int.toNat = l := by
  unfold ints
  rw [List.map_map]
  have : (Int.toNat ∘ fun n : Nat => (n : Int)) = id := by funext n; simp
  rw [this, List.map_id]
theorem ints_length (l : List Nat) : (ints l).length = l.length := by unfold ints; simp
theorem ints_snoc (l : List Nat) (n : Nat) : ints (l ++ [n]) = ints l ++ [(n : Int)] := by unfold ints; simp
theorem bytesOf_length (x n : Nat) : (bytesOf x n).length = n := by
  induction n with
  | zero => rfl
  | succ n ih => simp [bytesOf, ih]
theorem bytesAll_length (l : List Nat) : (bytesAll l).length = 8 * l.length := by
  induction l with
  | nil => rfl
  | cons a l ih => simp [bytesAll, ih, bytesOf_length]; omega
theorem bytesOf_small (x n : Nat) : ∀ b ∈ bytesOf x n, b < 256 := by
  induction n with
  | zero => intro b hb; simp [bytesOf] at hb
  | succ n ih =>
    intro b hb
    simp only [bytesOf, List.mem_append, List.mem_singleton] at hb
    rcases hb with hb | rfl
    · exact ih b hb
    · exact Nat.mod_lt _ (by omega)
theorem bytesAll_small (l : List Nat) : ∀ b ∈ bytesAll l, b < 256 := by
  induction l with
  | nil => intro b hb; simp [bytesAll] at hb
  | cons a l ih =>
    intro b hb
    simp only [bytesAll, List.mem_append] at hb
    rcases hb with hb | hb
    · exact bytesOf_small a 8 b hb
    · exact ih b hb
theorem ints_lim (l : List Nat) (h : ∀ b ∈ l, b < 256) : Lim (ints l) 256 := fun j hj => by
  rw [ints_length] at hj
  have e : (ints l).getD j 0 = ((l[j] : Nat) : Int) := by unfold ints; simp [List.getD_eq_getElem?_getD, hj]
  have := h l[j] (List.getElem_mem hj)
  rw [e]
  omega
theorem byte_pow (x k : Nat) : x / 256 ^ k / 256 = x / 256 ^ (k + 1) := by rw [Nat.div_div_eq_div_mul, Nat.pow_succ]
end SM

set_option maxHeartbeats 1000000 in
theorem rwords_any (A : Option Addr) (c : Nat) (zs : List Int) (w : World) (hlen : zs.length ≤ 1000) (hz : Lim zs 18446744073709551616) (hA : Ints w .u64 A zs) :
    Calls Try.prog 31 #[.slice A zs.length c] w fun e w' => e = .returned (.int .u32 (SM.sumOfWords zs : Nat)) ∧ Ext w w' := by
  go_enter Try.func31, Try.ntmps31
  go_wp2
  go_loopw [3, 4] (fun v i wr => ∃ k : Nat, k ≤ zs.length ∧ i = .int .i64 k ∧ Row wr w.heap.size 5 .u8 v (SM.ints (SM.bytesAll ((zs.map Int.toNat).take k))) ∧ Ext w wr) (fun _ i _ => zs.length - (intOf i).toNat)
  case atStart => exact ⟨0, Nat.zero_le _, rfl, Row.nil _ _ _ _, Ext.refl _⟩
  case round =>
    obtain ⟨k, hk, rfl, hrow, hext⟩ := hrel
    by_cases hlt : k < zs.length
    · obtain ⟨ad, rfl, hb, hc⟩ := (hA.ext hext) (by omega)
      have hcell := hc k hlt
      have hzk := hz k hlt
      clear hc
      have HT := Lib.hid (SM.nats_take zs k hlt)
      obtain ⟨x, hbe⟩ := Int.eq_ofNat_of_zero_le hzk.1
      rw [hbe] at hcell hzk HT
      clear hbe
      have HL := Lib.hid (SM.bytesAll_length ((zs.map Int.toNat).take k))
      have hkl : ((zs.map Int.toNat).take k).length ≤ 1000 := by rw [List.length_take, List.length_map]; omega
      generalize (zs.map Int.toNat).take k = L at *
      have hx64 : x < 18446744073709551616 := by omega
      generalize wr = w0 at *
      go_wp2_with fail
      go_loopw [3, 5, 6] (fun v q i wr => ∃ m : Nat, m ≤ 8 ∧ i = .int .i64 m ∧ q = .int .u64 ((x / 256 ^ m : Nat) : Int) ∧ Row wr w.heap.size 5 .u8 v (SM.ints (SM.bytesAll L ++ SM.bytesOf x m)) ∧ Ext w wr) (fun _ _ i _ => 8 - (intOf i).toNat)
      case atStart => exact ⟨0, Nat.zero_le _, rfl, by simp, by simpa [SM.bytesOf] using hrow, hext⟩
      case round =>
        clear hrow hext hcell
        obtain ⟨m, hm, rfl, rfl, hrow, hext⟩ := hrel
        by_cases hltm : m < 8
        · have HM := Lib.hid (show SM.ints (SM.bytesAll L ++ SM.bytesOf x (m + 1)) = SM.ints (SM.bytesAll L ++ SM.bytesOf x m) ++ [((x / 256 ^ m % 256 : Nat) : Int)] from by rw [← SM.ints_snoc, List.append_assoc]; rfl)
          have HP := Lib.hid (SM.byte_pow x m)
          have hy : x / 256 ^ m < 18446744073709551616 := Nat.lt_of_le_of_lt (Nat.div_le_self _ _) hx64
          generalize x / 256 ^ m = y at *
          go_wp2_with ((at_builtin; refine Hid.out ?_))
          refine Lib.hid ?_
          refine wpList_push rfl _ _ 70 rfl 5 .u8 1 byte_info (by omega) Try.underlying70 w wr _ (SM.ints (SM.bytesAll L ++ SM.bytesOf x m)) ((y : Int) % 256) (by rfl) hrow hext (by rfl) (by rw [SM.ints_length, List.length_append, HL.out, SM.bytesOf_length]; omega) ?_
          intro v' w' hrow' hext'
          go_wp2_with fail
          go_roundw
          case rel => exact ⟨m + 1, by omega, by go_num, by rw [← HP.out]; rfl, by rw [HM.out]; exact hrow', hext'⟩
          case measure => simp [intOf]; omega
        · have e : m = 8 := by omega
          rw [e] at hrow
          clear e
          go_wp2_with fail
          go_roundw
          case rel => exact ⟨k + 1, by omega, by go_num, by rw [HT.out, SM.bytesAll_snoc]; exact hrow, hext⟩
          case measure => simp [intOf]; omega
    · have e : (zs.map Int.toNat).take k = zs.map Int.toNat := List.take_of_length_le (by simp; omega)
      rw [e] at hrow
      clear e
      obtain ⟨A2, c2, rfl, hI, _⟩ := hrow.form
      go_wp2_with fail
      refine (rbytes_any A2 c2 _ _ (by rw [SM.ints_length, SM.bytesAll_length, List.length_map]; omega) (SM.ints_lim _ (SM.bytesAll_small _)) hI).mono ?_
      rintro e w2 ⟨rfl, hx2⟩
      go_wp2_with fail
      go_ret
      refine ⟨reti ?_, hext.trans hx2⟩
      unfold SM.sumOf SM.sumOfWords
      rw [SM.ints_nats, SM.bytesAll_fold]
end Go.Proofs.Ytljleibhncidmaa
