/- Words, Zero, together and word of package lines; and flat, Same, May, Bytes, Words of the document's answer for it. Conditions: those that each theorem names. -/
import Derived.Test.YtcelhllhdkminaaLineFns2
namespace Go.Proofs.Ytcelhllhdkminaa
open Go.ChangeShapes Go.WideShapes Go.ChangeAt Go.RowKit
set_option linter.unusedVariables false
theorem reti {k : IntKind} {a b : Int} (h : a = b) : Ending.returned (.int k a) = .returned (.int k b) := by rw [h]
theorem new8 (w : World) (t : TypeId) (a b c d e f g i : Int) : ∀ j, j < [a, b, c, d, e, f, g, i].length → (w.alloc (.cells #[.int .u64 a, .int .u64 b, .int .u64 c, .int .u64 d, .int .u64 e, .int .u64 f, .int .u64 g, .int .u64 i] t)).cell? ((⟨w.heap.size, 0, none⟩ : Addr).add j) = some (.int .u64 ([a, b, c, d, e, f, g, i].getD j 0)) := fun j hj => by
  have hj' : j < 8 := hj
  rw [at0, cell_of_row _ _ _ _ _ _ (heap_alloc_new w _)]
  match j, hj' with
  | 0, _ => rfl
  | 1, _ => rfl
  | 2, _ => rfl
  | 3, _ => rfl
  | 4, _ => rfl
  | 5, _ => rfl
  | 6, _ => rfl
  | 7, _ => rfl
theorem take_step (zs : List Int) (i : Nat) (h : i < zs.length) : ∃ x, zs.getD i 0 = x ∧ zs.take (i + 1) = zs.take i ++ [x] :=
  ⟨zs[i], by simp [List.getD_eq_getElem?_getD, h], List.take_succ_eq_append_getElem h⟩
theorem add_add (a : Addr) (i j : Nat) : (a.add i).add j = a.add (i + j) := by
  unfold Addr.add
  by_cases hi : i = 0 <;> by_cases hj : j = 0 <;> simp [hi, hj, Nat.add_assoc]
set_option maxRecDepth 100000 in
set_option maxHeartbeats 400000 in
theorem words_of (w : World) (A : Option Addr) (n c : Nat) (zs : List Int) (hz : zs.length = 8 * n) (hn : n ≤ 1000000) (hlim : Lim zs 18446744073709551616) (hA : Ints w .u64 A zs) :
    Calls Try.prog 85 #[.slice A n c] w (RowBack w 31 .u64 zs) := by
  obtain ⟨M, hmk, hrw⟩ : ∃ M : Array Value, (∀ W, (Instr.makeSlice 22 (.int .i64 0) (.int .i64 ((n : Int) * 8))).run Try.prog W = .ok (.slice (some ⟨W.heap.size, 0, none⟩) 0 (n * 8)) (W.alloc (.cells M 31))) ∧ ∀ W : World, Row (W.alloc (.cells M 31)) W.heap.size 31 .u64 (.slice (some ⟨W.heap.size, 0, none⟩) 0 (n * 8)) [] :=
    ⟨_, fun W => make_words 0 (n * 8) (by omega) (by omega) W, fun W => Row.made W _ 0 (n * 8) .u64 (by omega) (by omega)⟩
  have HR := Lib.hid (hrw w)
  clear hrw
  go_enter Try.func85, Try.ntmps85
  go_wp2_with fail
  go_loopw [3, 12] (fun u i wr => ∃ k : Nat, k ≤ n ∧ i = .int .i64 k ∧ Row wr w.heap.size 31 .u64 u (zs.take (8 * k)) ∧ Ext w wr) (fun _ i _ => n - (intOf i).toNat)
  case atStart => exact ⟨0, Nat.zero_le _, rfl, by simpa using HR.out, (Ext.refl w).alloc _⟩
  case round =>
    obtain ⟨k, hk, rfl, hrow', hext⟩ := hrel
    by_cases hlt : k < n
    · have hd : decide ((k : Int) < (n : Int)) = true := by simp; omega
      obtain ⟨ad, rfl, hb, hc⟩ := (hA.ext hext) (by omega)
      obtain ⟨a0, a1, a2, a3, a4, a5, a6, a7, h1, h2, hl8, c0, c1, c2, c3, c4, c5, c6, c7⟩ := line_at hc k (by omega) hlim
      clear hc h1
      have H2 := Lib.hid h2
      clear h2
      have hlen : (zs.take (8 * k)).length + 8 < 1000000000 := by rw [List.length_take]; omega
      have HL := Lib.hid hlen
      clear hlen
      generalize zs.take (8 * k) = P at *
      go_wp2_with ((at_builtin; refine Hid.out ?_))
      refine Lib.hid ?_
      refine wpList_appN rfl _ _ 22 rfl 31 .u64 1 8 (.int .u64 0) word_info rfl (by decide) (by decide) Try.underlying22 w _ _ P.length P (by rfl) (by exact RowN.of_row (hrow'.ext ((Ext.refl wr).alloc _))) (by exact hext.alloc _) ⟨wr.heap.size, 0, none⟩ 8 8 [a0, a1, a2, a3, a4, a5, a6, a7] (by rfl) rfl (by exact new8 wr _ a0 a1 a2 a3 a4 a5 a6 a7) HL.out ?_
      intro v' w' hrow2 hext2 _ _
      go_wp2_with fail
      go_roundw
      case rel => exact ⟨k + 1, by omega, by go_num, by rw [H2.out]; exact hrow2.row, hext2⟩
      case measure => simp [intOf]; omega
    · have hd : decide ((k : Int) < (n : Int)) = false := by simp; omega
      obtain rfl : k = n := by omega
      have e : zs.take (8 * k) = zs := List.take_of_length_le (by omega)
      rw [e] at hrow'
      clear e
      go_wp2_with fail
      go_ret
      exact ⟨_, rfl, hrow', hext⟩
/-- The lines that a number of lines comes to. -/
def zeros (n : Int) : Nat := (min (max n 0) 262144).toNat
set_option maxRecDepth 100000 in
set_option maxHeartbeats 400000 in
theorem zero_any (w : World) (n : Int) (h0 : -9223372036854775808 ≤ n) (h1 : n < 9223372036854775808) :
    Calls Try.prog 69 #[.int .i64 n] w fun e w' => e = .returned (.slice (some ⟨w.heap.size, 0, none⟩) (zeros n) (zeros n)) ∧ w' = w.alloc (.cells (madeCells z8 (zeros n * 8)) 131) := by
  have hmk := fun W => make_lines (zeros n) (zeros n) (by omega) (by unfold zeros; omega) W
  have hz : ((zeros n : Nat) : Int) = min (max n 0) 262144 := by unfold zeros; omega
  rw [hz] at hmk
  by_cases g1 : n < 0
  · have e : min (max n 0) 262144 = 0 := by omega
    rw [e] at hmk
    clear e hz
    generalize zeros n = z at *
    go_enter Try.func69, Try.ntmps69
    go_wp2_with fail
    go_ret
    exact ⟨rfl, rfl⟩
  · by_cases g2 : n ≤ 262144
    · have e : min (max n 0) 262144 = n := by omega
      rw [e] at hmk
      clear e hz
      generalize zeros n = z at *
      go_enter Try.func69, Try.ntmps69
      go_wp2_with fail
      go_ret
      exact ⟨rfl, rfl⟩
    · have e : min (max n 0) 262144 = 262144 := by omega
      rw [e] at hmk
      clear e hz
      generalize zeros n = z at *
      go_enter Try.func69, Try.ntmps69
      go_wp2_with fail
      go_ret
      exact ⟨rfl, rfl⟩
end Go.Proofs.Ytcelhllhdkminaa
