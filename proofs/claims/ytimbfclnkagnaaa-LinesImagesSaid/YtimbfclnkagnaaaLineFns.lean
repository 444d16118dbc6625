/- What the functions of package lines answer. Conditions: those that each theorem names. -/
import Derived.Test.YtimbfclnkagnaaaInts
import Derived.Test.YtimbfclnkagnaaaLineMath
import Derived.Test.YtimbfclnkagnaaaMem
namespace Go.Proofs.Ytimbfclnkagnaaa
open Go.ChangeShapes Go.WideShapes Go.ChangeAt Go.RowKit
set_option linter.unusedVariables false
/-- A line's value. -/
def lineV (ls : List Int) : Value := .agg (ls.map (Value.int .u64)).toArray
theorem lineV8 (a b c d e f g i : Int) : lineV [a, b, c, d, e, f, g, i] = .agg #[.int .u64 a, .int .u64 b, .int .u64 c, .int .u64 d, .int .u64 e, .int .u64 f, .int .u64 g, .int .u64 i] := rfl
/-- What hands back a row of the call's own. -/
def RowBack (w0 : World) (e : TypeId) (k : IntKind) (zs : List Int) (r : Ending) (w' : World) : Prop := ∃ v, r = .returned v ∧ Row w' w0.heap.size e k v zs ∧ Ext w0 w'

theorem eight {ls : List Int} (h : ls.length = 8) : ∃ a b c d e f g i : Int, ls = [a, b, c, d, e, f, g, i] := by
  match ls, h with
  | [a, b, c, d, e, f, g, i], _ => exact ⟨a, b, c, d, e, f, g, i, rfl⟩
/-- A word of a line that is handed on by its value. -/
theorem run_index8 (a b c d e f g i : Int) (k : Nat) (hk : k < 8) (W : World) :
    (Instr.index 24 (.agg #[.int .u64 a, .int .u64 b, .int .u64 c, .int .u64 d, .int .u64 e, .int .u64 f, .int .u64 g, .int .u64 i]) (.int .i64 (k : Int))).run Try.prog W = .ok (.int .u64 ([a, b, c, d, e, f, g, i].getD k 0)) W := by
  have hu : Try.prog.underlying 24 = some (.array 8 22) := Try.underlying24
  have hs : Try.prog.cellsOf 22 = 1 := by kernel_rfl
  have hi : ∃ j, Try.prog.info? 22 = some j ∧ j.size = 1 := by
    obtain ⟨j, h, _, h1, _⟩ := info_parts word_info
    exact ⟨j, h, h1⟩
  obtain ⟨j, hj, hj1⟩ := hi
  match k, hk with
  | 0, _ => simp [Instr.index, run_underlying hu, asIntOf, sizeOf, typeInfo, hj, hj1, go_sem]
  | 1, _ => simp [Instr.index, run_underlying hu, asIntOf, sizeOf, typeInfo, hj, hj1, go_sem]
  | 2, _ => simp [Instr.index, run_underlying hu, asIntOf, sizeOf, typeInfo, hj, hj1, go_sem]
  | 3, _ => simp [Instr.index, run_underlying hu, asIntOf, sizeOf, typeInfo, hj, hj1, go_sem]
  | 4, _ => simp [Instr.index, run_underlying hu, asIntOf, sizeOf, typeInfo, hj, hj1, go_sem]
  | 5, _ => simp [Instr.index, run_underlying hu, asIntOf, sizeOf, typeInfo, hj, hj1, go_sem]
  | 6, _ => simp [Instr.index, run_underlying hu, asIntOf, sizeOf, typeInfo, hj, hj1, go_sem]
  | 7, _ => simp [Instr.index, run_underlying hu, asIntOf, sizeOf, typeInfo, hj, hj1, go_sem]
set_option maxRecDepth 100000 in
set_option maxHeartbeats 400000 in
theorem appendLine_any (w0 w : World) (v : Value) (zs ls : List Int) (hl : ls.length = 8) (hlim : Lim ls 18446744073709551616) (hrow : Row w w0.heap.size 5 .u8 v zs) (hx : Ext w0 w) (hz : zs.length < 100000000) :
    Calls Try.prog 42 #[v, lineV ls] w (RowBack w0 5 .u8 (zs ++ LM.bytesOf ls)) := by
  obtain ⟨a0, a1, a2, a3, a4, a5, a6, a7, rfl⟩ := eight hl
  rw [lineV8]
  go_enter Try.func42, Try.ntmps42
  go_wp2_with fail
  go_loopw [0, 8] (fun u i wr => ∃ k : Nat, k ≤ 8 ∧ i = .int .i64 k ∧ Row wr w0.heap.size 5 .u8 u (zs ++ LM.bytesOf ([a0, a1, a2, a3, a4, a5, a6, a7].take k)) ∧ Ext w0 wr) (fun _ i _ => 8 - (intOf i).toNat)
  case atStart => exact ⟨0, Nat.zero_le _, rfl, by simpa [LM.bytesOf] using hrow.ext ((Ext.refl w).alloc _), hx.alloc _⟩
  case round =>
    obtain ⟨k, hk, rfl, hrow', hext⟩ := hrel
    by_cases hlt : k < 8
    · have hlk := hlim k (by simp; omega)
      have hidx := fun W => run_index8 a0 a1 a2 a3 a4 a5 a6 a7 k hlt W
      have HB := Lib.hid (LM.bytesOf_take [a0, a1, a2, a3, a4, a5, a6, a7] k (by simp; omega))
      have hx0 : [a0, a1, a2, a3, a4, a5, a6, a7].getD k 0 = [a0, a1, a2, a3, a4, a5, a6, a7][k]'(by simp; omega) := by simp [List.getD_eq_getElem?_getD, hlt]
      rw [hx0] at hlk
      have hidx' : ∀ W, (Instr.index 24 (.agg #[.int .u64 a0, .int .u64 a1, .int .u64 a2, .int .u64 a3, .int .u64 a4, .int .u64 a5, .int .u64 a6, .int .u64 a7]) (.int .i64 (k : Int))).run Try.prog W = .ok (.int .u64 ([a0, a1, a2, a3, a4, a5, a6, a7][k]'(by simp; omega))) W := fun W => by rw [← hx0]; exact hidx W
      clear hidx hx0
      generalize [a0, a1, a2, a3, a4, a5, a6, a7][k]'(by simp; omega) = x at *
      have hlen : (zs ++ LM.bytesOf ([a0, a1, a2, a3, a4, a5, a6, a7].take k)).length < 200000000 := by rw [List.length_append, LM.bytesOf_len, List.length_take]; simp; omega
      have HL := Lib.hid hlen
      clear hlen
      generalize hP : zs ++ LM.bytesOf ([a0, a1, a2, a3, a4, a5, a6, a7].take k) = P at *
      have HP := Lib.hid hP
      clear hP
      have hd : decide ((k : Int) < 8) = true := by simp; omega
      go_wp2_with fail
      generalize wr = w2 at *
      go_loopw [0, 6, 11] (fun u y j wr => ∃ m : Nat, m ≤ 8 ∧ j = .int .i64 m ∧ y = .int .u64 (x / 256 ^ m) ∧ Row wr w0.heap.size 5 .u8 u (P ++ LM.wbs x m) ∧ Ext w0 wr) (fun _ _ j _ => 8 - (intOf j).toNat)
      case atStart => exact ⟨0, Nat.zero_le _, rfl, by simp, by simpa [LM.wbs] using hrow', hext⟩
      case round =>
        obtain ⟨m, hm, rfl, rfl, hrow2, hext2⟩ := hrel
        by_cases hmt : m < 8
        · have hd2 : decide ((m : Int) < 8) = true := by simp; omega
          have hy := LM.div_lim x m hlk.1 hlk.2
          have HS := Lib.hid (LM.div_succ x m)
          have HW := Lib.hid (LM.wbs_succ x m)
          have hwb : LM.wb x m = x / 256 ^ m % 256 := rfl
          have HWB := Lib.hid hwb
          clear hwb
          have hl2 : (P ++ LM.wbs x m).length < 1000000000 := by rw [List.length_append, LM.wbs_len]; have := HL.out; omega
          have HL2 := Lib.hid hl2
          clear hl2
          generalize x / 256 ^ m = y at *
          go_wp2_with ((at_builtin; refine Hid.out ?_))
          refine Lib.hid ?_
          refine wpList_push rfl _ _ 25 rfl 5 .u8 1 byte_info (by omega) Try.underlying25 w0 wr _ (P ++ LM.wbs x m) (y % 256) (by rfl) hrow2 hext2 (by rfl) HL2.out ?_
          intro v' w' hrow3 hext3
          go_wp2_with fail
          go_roundw
          case rel => exact ⟨m + 1, by omega, by go_num, by rw [HS.out], by rw [HW.out, HWB.out, ← List.append_assoc]; exact hrow3, hext3⟩
          case measure => simp [intOf]; omega
        · have hd2 : decide ((m : Int) < 8) = false := by simp; omega
          obtain rfl : m = 8 := by omega
          go_wp2_with fail
          go_roundw
          case rel => exact ⟨k + 1, by omega, by go_num, by rw [HB.out, ← List.append_assoc, HP.out]; exact hrow2, hext2⟩
          case measure => simp [intOf]; omega
    · have hd : decide ((k : Int) < 8) = false := by simp; omega
      obtain rfl : k = 8 := by omega
      go_wp2_with fail
      go_ret
      exact ⟨_, rfl, hrow', hext⟩
end Go.Proofs.Ytimbfclnkagnaaa
