/- The iterator of package lines that yields parts of one size, and what a loop over it may keep. Conditions: those that each theorem names. -/
import Derived.RangeFuncNested
import Derived.RangeFuncBox
import Derived.RangeFuncBound
import Derived.RangeFuncCalls
import Derived.RangeFuncLeaves
import Derived.Shelf.Abstract
import Derived.Shelf.RegionOpen
import Derived.WalkKit
import Derived.OwnWalkIn
import Derived.TacticsInMore
import Derived.LoopNIn
import Derived.LoopIn
import Derived.Test.YtcelhllhdkminaaLineFns5
import Derived.Test.YtcelhllhdkminaaOrders
namespace Go.Proofs.Ytcelhllhdkminaa
open Go.ChangeShapes Go.WideShapes Go.ChangeAt Go.RowKit Go.Shelf
set_option linter.unusedVariables false
attribute [local go_sem] Oper.semAt_some
/-- The blocks of S are as they were. -/
def KeepAt (S : Nat → Prop) (W W' : World) : Prop := ∀ g, S g → W'.heap[g]? = W.heap[g]?
theorem KeepAt.refl (S : Nat → Prop) (W : World) : KeepAt S W W := fun _ _ => rfl
theorem KeepAt.trans {S : Nat → Prop} {A B C : World} (h : KeepAt S A B) (k : KeepAt S B C) : KeepAt S A C := fun g hg => (k g hg).trans (h g hg)
theorem KeepAt.cell {S : Nat → Prop} {W W' : World} (h : KeepAt S W W') {g : Nat} (hg : S g) (o : Nat) : W'.cell? ⟨g, o, none⟩ = W.cell? ⟨g, o, none⟩ := World.cell?_of_block (h g hg)
theorem KeepAt.putObj {S : Nat → Prop} {B : Nat} (hS : ∀ g, S g → g < B) (W : World) (l : Nat) (o' : Obj) (hl : B ≤ l) : KeepAt S W (W.putObj l o') := fun g hg =>
  World.putObj_heap_other (fun e => by have := hS g hg; omega)
theorem finRange_take_succ (m k : Nat) (h : k < m) : (List.finRange m).take (k + 1) = (List.finRange m).take k ++ [⟨k, h⟩] := by
  rw [List.take_succ_eq_append_getElem (by simpa using h)]
  simp
set_option maxRecDepth 100000 in
set_option maxHeartbeats 2000000 in
theorem partW81_in (F : Fence) (n : Nat) (hfn : F.fn 122) (hro : F.round = none) (hn : 1 ≤ n) (l Bz Bi m cap : Nat) (A : Option Addr) (hA : 0 < m → ∃ ad, A = some ad) (hcap : m * 8 ≤ cap) (hcm : cap ≤ 9223372036854775807) (hm : m ≤ 1000000000) (S : Nat → Prop) (hSz : S Bz) (hSi : S Bi) (J Jx : List (Fin m) → World → Prop)
    (hY : ∀ pre x W, J pre W → pre.length < m → YieldAt F (n - 1) Try.prog l #[.slice (A.map (·.add (8 * x.val))) 8 8] W fun e W' =>
      (e = .returned (.bool true) ∧ J (pre ++ [x]) W' ∧ KeepAt S W W') ∨ (e = .returned (.bool false) ∧ Jx (pre ++ [x]) W'))
    (W : World) (hBz : W.cell? ⟨Bz, 0, none⟩ = some (.int .i64 8)) (hBi : W.cell? ⟨Bi, 0, none⟩ = some (.slice A (m * 8) cap)) (h0 : J [] W) :
    CallsIn F n Try.prog 122 #[.func (.yield l) #[] #[], .pointer (some ⟨Bz, 0, none⟩), .pointer (some ⟨Bi, 0, none⟩)] W fun e W' => (∃ v, e = .returned v) ∧
      ((∃ ys, ys = List.finRange m ∧ J ys W') ∨ (∃ pre, True ∧ Jx pre W')) := by
  refine callsIn_of_wp Try.func122 rfl hfn ?_ hro
  simp only [Try.ntmps122, List.size_toArray, List.length_cons, List.length_nil, Nat.reduceAdd, Nat.reduceSub, Array.replicate_succ, Array.replicate_zero, List.push_toArray, List.append_toArray, List.nil_append, List.cons_append]
  gi_wp2
  gi_loopw [4] (fun i wr => ∃ k : Nat, k ≤ m ∧ i = .int .i64 (8 * (k : Int)) ∧ J ((List.finRange m).take k) wr ∧ KeepAt S W wr)
    (fun i _ => m * 8 - (intOf i).toNat)
  case atStart => exact ⟨0, Nat.zero_le _, rfl, h0, KeepAt.refl _ _⟩
  case round =>
    obtain ⟨k, hk, rfl, hJs, hkp⟩ := hrel
    have hz : wr.cell? ⟨Bz, 0, none⟩ = some (.int .i64 8) := (hkp.cell hSz 0).trans hBz
    have hi : wr.cell? ⟨Bi, 0, none⟩ = some (.slice A (m * 8) cap) := (hkp.cell hSi 0).trans hBi
    by_cases hlt : k < m
    · have hd : decide (8 * (k : Int) + 8 ≤ ((m * 8 : Nat) : Int)) = true := by simp; omega
      have hd2 : 8 * (k : Int) + 8 ≤ (m : Int) * 8 := by omega
      obtain ⟨ad, rfl⟩ := hA (by omega)
      obtain ⟨fn, tmps, assign, body, hy, hR⟩ := hY _ ⟨k, hlt⟩ wr hJs (by rw [List.length_take, List.length_finRange]; omega)
      dsimp only [Option.map] at hy
      have HT := Lib.hid (finRange_take_succ m k hlt)
      gi_wp2
      refine hR.mono ?_
      rintro e W3 (⟨rfl, hJ3, hk3⟩ | ⟨rfl, hJx3⟩)
      · have hz3 : W3.cell? ⟨Bz, 0, none⟩ = some (.int .i64 8) := (hk3.cell hSz 0).trans hz
        gi_wp2
        go_roundw
        case rel => exact ⟨k + 1, by omega, by go_num, by rw [HT.out]; exact hJ3, hkp.trans hk3⟩
        case measure => simp [intOf]; omega
      · gi_wp2
        refine bodyPost_ret (results_none rfl _ _ _) rfl ?_
        exact ⟨⟨_, rfl⟩, .inr ⟨_, trivial, hJx3⟩⟩
    · obtain rfl : k = m := by omega
      have hd : decide (8 * (k : Int) + 8 ≤ ((k * 8 : Nat) : Int)) = false := by simp; omega
      have hd2 : ¬ (8 * (k : Int) + 8 ≤ (k : Int) * 8) := by omega
      have e : (List.finRange k).take k = List.finRange k := List.take_of_length_le (by simp)
      rw [e] at hJs
      clear e
      gi_wp2
      go_end0
      exact ⟨⟨_, rfl⟩, .inl hJs⟩
set_option maxHeartbeats 1000000 in
theorem partW8_in (F : Fence) (n : Nat) (hfn : F.fn 115) (hro : F.round = none) (A : Option Addr) (len cap : Nat) (w : World) :
    CallsIn F n Try.prog 115 #[.slice A len cap, .int .i64 8] w fun e w' => e = .returned (.func (.func 122) #[] #[.pointer (some ⟨w.heap.size + 1, 0, none⟩), .pointer (some ⟨w.heap.size, 0, none⟩)]) ∧ w' = (w.alloc (.cells #[.slice A len cap] 22)).alloc (.cells #[.int .i64 8] 3) := by
  refine callsIn_of_wp Try.func115 rfl hfn ?_ hro
  simp only [Try.ntmps115, List.size_toArray, List.length_cons, List.length_nil, Nat.reduceAdd, Nat.reduceSub, Array.replicate_succ, Array.replicate_zero, List.push_toArray, List.append_toArray, List.nil_append, List.cons_append]
  gi_wp2
  go_ret
  exact ⟨rfl, rfl⟩
theorem partW8_stops (F : Fence) (n : Nat) (hfn : F.fn 122) (hro : F.round = none) (hn : 1 ≤ n) (Bz Bi m cap : Nat) (A : Option Addr) (hA : 0 < m → ∃ ad, A = some ad) (hcap : m * 8 ≤ cap) (hcm : cap ≤ 9223372036854775807) (hm : m ≤ 1000000000) (S : Nat → Prop) (hSz : S Bz) (hSi : S Bi) (w : World) (hz : Bz < w.heap.size) (hi : Bi < w.heap.size)
    (hBz : w.cell? ⟨Bz, 0, none⟩ = some (.int .i64 8)) (hBi : w.cell? ⟨Bi, 0, none⟩ = some (.slice A (m * 8) cap)) :
    SeqStopsK F n Try.prog 122 #[.pointer (some ⟨Bz, 0, none⟩), .pointer (some ⟨Bi, 0, none⟩)] (fun x : Fin m => #[.slice (A.map (·.add (8 * x.val))) 8 8]) (KeepAt S) (fun ys => ys = List.finRange m) (fun _ => True) m w := fun l J Jx W hW _ _ hY h0 =>
  partW81_in F n hfn hro hn l Bz Bi m cap A hA hcap hcm hm S hSz hSi J Jx hY W ((hW.cell (p := ⟨Bz, 0, none⟩) hz).trans hBz) ((hW.cell (p := ⟨Bi, 0, none⟩) hi).trans hBi) h0
end Go.Proofs.Ytcelhllhdkminaa
