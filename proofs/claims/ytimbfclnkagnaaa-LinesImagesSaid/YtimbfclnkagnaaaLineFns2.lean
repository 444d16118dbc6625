/- What the functions of package lines answer, and those of the document's answer for it. Conditions: those that each theorem names. -/
import Derived.Test.YtimbfclnkagnaaaLineFns
import Derived.Deep.RegionWith
import Derived.BigQuiet
import Derived.Deep.QuietTactic
namespace Go.Proofs.Ytimbfclnkagnaaa
open Go.ChangeShapes Go.WideShapes Go.ChangeAt Go.RowKit
set_option linter.unusedVariables false
theorem appendLine8 (w0 w : World) (v : Value) (zs : List Int) (a b c d e f g i : Int) (hlim : Lim [a, b, c, d, e, f, g, i] 18446744073709551616) (hrow : Row w w0.heap.size 5 .u8 v zs) (hx : Ext w0 w) (hz : zs.length < 100000000) :
    Calls Try.prog 42 #[v, .agg #[.int .u64 a, .int .u64 b, .int .u64 c, .int .u64 d, .int .u64 e, .int .u64 f, .int .u64 g, .int .u64 i]] w (RowBack w0 5 .u8 (zs ++ LM.bytesOf [a, b, c, d, e, f, g, i])) :=
  appendLine_any w0 w v zs [a, b, c, d, e, f, g, i] rfl hlim hrow hx hz
set_option maxRecDepth 100000 in
set_option maxHeartbeats 400000 in
theorem bytes_line (w : World) (ls : List Int) (hl : ls.length = 8) (hlim : Lim ls 18446744073709551616) :
    Calls Try.prog 13 #[lineV ls] w (RowBack w 5 .u8 (LM.bytesOf ls)) := by
  obtain ⟨a0, a1, a2, a3, a4, a5, a6, a7, rfl⟩ := eight hl
  obtain ⟨M, hmk, hrw⟩ : ∃ M : Array Value, (∀ W, (Instr.makeSlice 25 (.int .i64 0) (.int .i64 64)).run Try.prog W = .ok (.slice (some ⟨W.heap.size, 0, none⟩) 0 64) (W.alloc (.cells M 5))) ∧ ∀ W : World, Row (W.alloc (.cells M 5)) W.heap.size 5 .u8 (.slice (some ⟨W.heap.size, 0, none⟩) 0 64) [] :=
    ⟨_, fun W => make_bytes 0 64 (by omega) (by omega) W, fun W => Row.made W _ 0 64 .u8 (by omega) (by omega)⟩
  have HC := Lib.hid (fun X : Obj => appendLine8 w (((w.alloc X).alloc (.cells M 5)).drew) (.slice (some ⟨w.heap.size + 1, 0, none⟩) 0 64) [] a0 a1 a2 a3 a4 a5 a6 a7 hlim (by have h := (hrw (w.alloc X)).mono (B' := w.heap.size) (by simp); simp only [World.size_alloc] at h; exact h) (((Ext.refl w).alloc _).alloc _).drew (by decide))
  clear hrw
  rw [lineV8]
  go_enter Try.func13, Try.ntmps13
  go_wp2_with fail
  go_region_with (go_at_call 42; refine (HC.out _).mono ?_; rintro e w' ⟨v, rfl, hr, hx⟩)
  all_goals
    go_wp2_with fail
    go_ret
    exact ⟨_, rfl, hr, hx⟩
set_option maxRecDepth 100000 in
set_option maxHeartbeats 400000 in
theorem all_any (w : World) (A : Option Addr) (n c : Nat) (zs : List Int) (hz : zs.length = 8 * n) (hn : n ≤ 1000000) (hlim : Lim zs 18446744073709551616) (hA : Ints w .u64 A zs) :
    Calls Try.prog 18 #[.slice A n c] w (RowBack w 5 .u8 (LM.bytesOf zs)) := by
  obtain ⟨M, hmk, hrw⟩ : ∃ M : Array Value, (∀ W, (Instr.makeSlice 25 (.int .i64 0) (.int .i64 ((n : Int) * 64))).run Try.prog W = .ok (.slice (some ⟨W.heap.size, 0, none⟩) 0 (n * 64)) (W.alloc (.cells M 5))) ∧ ∀ W : World, Row (W.alloc (.cells M 5)) W.heap.size 5 .u8 (.slice (some ⟨W.heap.size, 0, none⟩) 0 (n * 64)) [] :=
    ⟨_, fun W => make_bytes 0 (n * 64) (by omega) (by omega) W, fun W => Row.made W _ 0 (n * 64) .u8 (by omega) (by omega)⟩
  have HR := Lib.hid (hrw w)
  clear hrw
  go_enter Try.func18, Try.ntmps18
  go_wp2_with fail
  go_loopw [3, 12] (fun u i wr => ∃ k : Nat, k ≤ n ∧ i = .int .i64 k ∧ Row wr w.heap.size 5 .u8 u (LM.bytesOf (zs.take (8 * k))) ∧ Ext w wr) (fun _ i _ => n - (intOf i).toNat)
  case atStart => exact ⟨0, Nat.zero_le _, rfl, by simpa [LM.bytesOf] using HR.out, (Ext.refl w).alloc _⟩
  case round =>
    obtain ⟨k, hk, rfl, hrow', hext⟩ := hrel
    by_cases hlt : k < n
    · have hd : decide ((k : Int) < (n : Int)) = true := by simp; omega
      obtain ⟨ad, rfl, hb, hc⟩ := (hA.ext hext) (by omega)
      obtain ⟨a0, a1, a2, a3, a4, a5, a6, a7, h1, h2, hl8, c0, c1, c2, c3, c4, c5, c6, c7⟩ := line_at hc k (by omega) hlim
      clear hc h1
      have H2 := Lib.hid h2
      clear h2
      have hlen : (LM.bytesOf (zs.take (8 * k))).length < 100000000 := by rw [LM.bytesOf_len, List.length_take]; omega
      have HL := Lib.hid hlen
      clear hlen
      generalize zs.take (8 * k) = P at *
      go_wp2_with fail
      refine (appendLine8 w _ _ (LM.bytesOf P) a0 a1 a2 a3 a4 a5 a6 a7 hl8 (by exact hrow'.ext ((Ext.refl wr).alloc _)) (by exact hext.alloc _) HL.out).mono ?_
      rintro e w' ⟨v', rfl, hrow2, hext2⟩
      go_wp2_with fail
      go_roundw
      case rel => exact ⟨k + 1, by omega, by go_num, by rw [H2.out, LM.bytesOf_append]; exact hrow2, hext2⟩
      case measure => simp [intOf]; omega
    · have hd : decide ((k : Int) < (n : Int)) = false := by simp; omega
      obtain rfl : k = n := by omega
      have e : zs.take (8 * k) = zs := List.take_of_length_le (by omega)
      rw [e] at hrow'
      clear e
      go_wp2_with fail
      go_ret
      exact ⟨_, rfl, hrow', hext⟩
end Go.Proofs.Ytimbfclnkagnaaa
