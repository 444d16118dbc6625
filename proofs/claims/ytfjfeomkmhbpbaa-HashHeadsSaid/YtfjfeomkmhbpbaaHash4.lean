/- Package hash: the heads, one behind the other, and what a range over them may keep; the word behind all lasting ones; the document's Head. Conditions: those that each theorem names. -/
import Derived.Test.YtfjfeomkmhbpbaaHash2
import Derived.Test.YtfjfeomkmhbpbaaLay8
import Derived.RangeFuncNested
import Derived.RangeFuncBox
import Derived.RangeFuncBound
import Derived.RangeFuncCalls
import Derived.RangeFuncLeaves
import Derived.Shelf.Abstract
import Derived.Shelf.RegionOpen
import Derived.WalkKit
import Derived.OwnWalkIn
import Derived.TacticsInMore
import Derived.LoopNIn
import Derived.LoopIn
namespace Go.Proofs.Ytfjfeomkmhbpbaa
open Go.ChangeShapes Go.WideShapes Go.ChangeAt Go.RowKit Go.Shelf
set_option linter.unusedVariables false
attribute [local go_sem] Oper.semAt_some
/-- The blocks of S are as they were (for hash's iterator). -/
def KeepH (S : Nat → Prop) (W W' : World) : Prop := ∀ g, S g → W'.heap[g]? = W.heap[g]?
theorem KeepH.refl (S : Nat → Prop) (W : World) : KeepH S W W := fun _ _ => rfl
theorem KeepH.trans {S : Nat → Prop} {A B C : World} (h : KeepH S A B) (k : KeepH S B C) : KeepH S A C := fun g hg => (k g hg).trans (h g hg)
theorem KeepH.putObj {S : Nat → Prop} {B : Nat} (hS : ∀ g, S g → g < B) (W : World) (l : Nat) (o' : Obj) (hl : B ≤ l) : KeepH S W (W.putObj l o') := fun g hg =>
  World.putObj_heap_other (fun e => by have := hS g hg; omega)
theorem KeepH.ext {S : Nat → Prop} {W W' : World} (hS : ∀ g, S g → g < W.heap.size) (h : Ext W W') : KeepH S W W' := fun g hg => h.block g (hS g hg)
theorem Ext.grownH {W W' : World} (h : Ext W W') : W.grownBy W' none := ⟨h.os, h.tape, h.output, h.size, fun k hk _ => h.block k hk⟩
theorem finRange_take_moreH (m k : Nat) (h : k < m) : (List.finRange m).take (k + 1) = (List.finRange m).take k ++ [⟨k, h⟩] := by
  rw [List.take_succ_eq_append_getElem (by simpa using h)]
  simp
/-- Where a bucket lies. -/
def bktN (F : Nat → Int) (n : Int) : Int := wordAt (F 4) (F 9) (F 10) (F 11) n 0
/-- The heads in their order. -/
def headN (F : Nat → Int) (k : Nat) : Int := if k = 0 then F 8 else bktN F ((k : Int) - 1)
def headB (k : Nat) : Bool := !decide (k = 0)
theorem bucket_ok {F : Nat → Int} (ok : Okay F) (gl : Nat) (n : Int) (w : World) (hl : Blk w gl 71 (cellsF F)) :
    Calls Try.prog 16 #[.pointer (some ⟨gl, 0, none⟩), .int .i64 n] w fun e w' => e = .returned (.int .i64 (bktN F n)) ∧ Ext w w' :=
  tBucket_any (some ⟨gl, 0, none⟩) (cellsF F) (F 4) (F 9) (F 10) (F 11) n w (Or.inl ⟨gl, rfl, hl⟩) (cellsF_at F 4 (by omega)) ok.v0 ok.v1 ok.r9.a ok.r9.d ok.r9.m (cellsF_at F 9 (by omega)) (cellsF_at F 10 (by omega)) (cellsF_at F 11 (by omega))
theorem set_ok {F : Nat → Int} (gl : Nat) (w : World) (hl : Blk w gl 71 (cellsF F)) :
    Calls Try.prog 37 #[.pointer (some ⟨gl, 0, none⟩)] w fun e w' => e = .returned (.int .i64 (F 8)) ∧ Ext w w' :=
  tSet_any (some ⟨gl, 0, none⟩) (cellsF F) (F 8) w (Or.inl ⟨gl, rfl, hl⟩) (cellsF_at F 8 (by omega))
theorem fldC3 (t s l b : Int) (w : World) : (Instr.field 29 (.agg #[.int .i64 t, .int .i64 s, .int .i64 l, .int .i64 b]) 3).run Try.prog w = .ok (.int .i64 b) w := by kernel_rfl
set_option maxRecDepth 100000 in
set_option maxHeartbeats 2000000 in
theorem heads1_in (n : Nat) (hn : 1 ≤ n) (l B0 gl m : Nat) (hm : m ≤ 1000000) (W : World) (F : Nat → Int) (ok : Okay F) (hL : F 3 = (m : Int)) (S : Nat → Prop) (s0 : S B0) (sl : S gl) (hS : ∀ g, S g → g < W.heap.size) (J Jx : List (Fin (m + 1)) → World → Prop)
    (hJ : ∀ s W W', J s W → Ext W W' → J s W')
    (hY : ∀ pre x W, J pre W → pre.length < m + 1 → YieldAt Fence.wide (n - 1) Try.prog l #[.int .i64 (headN F x.val), .bool (headB x.val)] W fun e W' =>
      (e = .returned (.bool true) ∧ J (pre ++ [x]) W' ∧ KeepH S W W') ∨ (e = .returned (.bool false) ∧ Jx (pre ++ [x]) W'))
    (hB0 : Blk W B0 33 [.pointer (some ⟨gl, 0, none⟩)]) (hl : Blk W gl 71 (cellsF F)) (h0 : J [] W) :
    CallsIn Fence.wide n Try.prog 36 #[.func (.yield l) #[] #[], .pointer (some ⟨B0, 0, none⟩)] W fun e W' => (∃ v, e = .returned v) ∧
      ((∃ ys, ys = List.finRange (m + 1) ∧ J ys W') ∨ (∃ pre, (∃ j, pre = (List.finRange (m + 1)).take j) ∧ Jx pre W')) := by
  have HK : Hid (∀ W2, KeepH S W W2 → W2.cell? ⟨B0, 0, none⟩ = some (.pointer (some ⟨gl, 0, none⟩))) := Lib.hid (fun W2 k => by
    have b1 : Blk W2 B0 33 [.pointer (some ⟨gl, 0, none⟩)] := (k B0 s0).trans hB0
    exact b1.cell 0)
  have HC : Hid (∀ W2, KeepH S W W2 → CallsIn Fence.wide (n - 1) Try.prog 38 #[.pointer (some ⟨gl, 0, none⟩)] W2 fun e w' => e = .returned (.agg #[.int .i64 (F 0), .int .i64 (F 1), .int .i64 (F 2), .int .i64 (m : Int)]) ∧ Ext W2 w') := Lib.hid (fun W2 k => callsIn_wide.2 (tConfig_any (some ⟨gl, 0, none⟩) (cellsF F) (F 0) (F 1) (F 2) (m : Int) W2 (Or.inl ⟨gl, rfl, (k gl sl).trans hl⟩) (cellsF_at F 0 (by omega)) (cellsF_at F 1 (by omega)) (cellsF_at F 2 (by omega)) (by rw [cellsF_at F 3 (by omega), hL])))
  have HSe : Hid (∀ W2, KeepH S W W2 → CallsIn Fence.wide (n - 1) Try.prog 37 #[.pointer (some ⟨gl, 0, none⟩)] W2 fun e w' => e = .returned (.int .i64 (F 8)) ∧ Ext W2 w') := Lib.hid (fun W2 k => callsIn_wide.2 (set_ok gl W2 ((k gl sl).trans hl)))
  have HG : Hid (∀ W2 i, KeepH S W W2 → CallsIn Fence.wide (n - 1) Try.prog 16 #[.pointer (some ⟨gl, 0, none⟩), .int .i64 i] W2 fun e w' => e = .returned (.int .i64 (bktN F i)) ∧ Ext W2 w') := Lib.hid (fun W2 i k => callsIn_wide.2 (bucket_ok ok gl i W2 ((k gl sl).trans hl)))
  have HE : Hid (∀ W2 W3, KeepH S W W2 → Ext W2 W3 → KeepH S W W3) := Lib.hid (fun W2 W3 k x g hg => by
    have e := k g hg
    rw [Array.getElem?_eq_getElem (hS g hg)] at e
    exact (x.block g (Array.getElem?_eq_some_iff.1 e).1).trans (k g hg))
  have c0 : W.cell? ⟨B0, 0, none⟩ = some (.pointer (some ⟨gl, 0, none⟩)) := hB0.cell 0
  have hfl := fun W => fldC3 (F 0) (F 1) (F 2) (m : Int) W
  have hY0 := hY [] ⟨0, Nat.succ_pos m⟩
  have e0 : headN F (Fin.val (⟨0, Nat.succ_pos m⟩ : Fin (m + 1))) = F 8 := rfl
  have e1 : headB (Fin.val (⟨0, Nat.succ_pos m⟩ : Fin (m + 1))) = false := rfl
  rw [e0, e1] at hY0
  clear hB0 hl hL ok e0 e1
  refine callsIn_of_wp Try.func36 rfl trivial ?_ rfl
  simp only [Try.ntmps36, List.size_toArray, List.length_cons, List.length_nil, Nat.reduceAdd, Nat.reduceSub, Array.replicate_succ, Array.replicate_zero, List.push_toArray, List.append_toArray, List.nil_append, List.cons_append]
  gi_wp2_with (refine ⟨trivial, ?_⟩; gi_at_call 37; refine (HSe.out W (KeepH.refl _ _)).mono ?_; rintro e w1 ⟨rfl, x1⟩)
  have hk1 := HE.out W w1 (KeepH.refl _ _) x1
  obtain ⟨fn, tmps, assign, body, hy, hR⟩ := hY0 w1 (hJ _ _ _ h0 x1) (Nat.succ_pos m)
  have HT0 := Lib.hid (finRange_take_moreH (m + 1) 0 (Nat.succ_pos m))
  clear hY0
  rw [hy]
  gi_wp2
  refine hR.mono ?_
  rintro e W3 (⟨rfl, hJ4, hk4⟩ | ⟨rfl, hJx4⟩)
  · have hk3 := hk1.trans hk4
    have c1 := HK.out W3 hk3
    clear hR hy
    gi_wp2_with (refine ⟨trivial, ?_⟩; gi_at_call 38; refine (HC.out W3 hk3).mono ?_; rintro e w4 ⟨rfl, x4⟩)
    have hk5 := HE.out W3 w4 hk3 x4
    have hJ5 := hJ _ _ _ hJ4 x4
    gi_loopw [16] (fun i wr => ∃ k : Nat, k ≤ m ∧ i = .int .i64 (k : Int) ∧ J ((List.finRange (m + 1)).take (k + 1)) wr ∧ KeepH S W wr)
      (fun i _ => m - (intOf i).toNat)
    case atStart => exact ⟨0, Nat.zero_le _, rfl, by rw [HT0.out]; exact hJ5, hk5⟩
    case round =>
      obtain ⟨k, hkm, rfl, hJs, hkp⟩ := hrel
      have c2 := HK.out wr hkp
      by_cases hlt : k < m
      · have v1 : decide ((k : Int) < (m : Int)) = true := by simp; omega
        have v2 : decide (k < m) = true := by simp; omega
        gi_wp2_with (refine ⟨trivial, ?_⟩; gi_at_call 16; refine (HG.out wr _ hkp).mono ?_; rintro e w6 ⟨rfl, x6⟩)
        have hk6 := HE.out wr w6 hkp x6
        have hJ6 := hJ _ _ _ hJs x6
        have hY1 := hY _ ⟨k + 1, by omega⟩ w6 hJ6 (by rw [List.length_take, List.length_finRange]; omega)
        rw [show headN F (Fin.val (⟨k + 1, by omega⟩ : Fin (m + 1))) = bktN F (k : Int) from by show bktN F (((k + 1 : Nat) : Int) - 1) = _; congr 1; omega, show headB (Fin.val (⟨k + 1, by omega⟩ : Fin (m + 1))) = true from rfl] at hY1
        obtain ⟨fn, tmps, assign, body, hy, hR⟩ := hY1
        have HT := Lib.hid (finRange_take_moreH (m + 1) (k + 1) (by omega))
        rw [hy]
        gi_wp2
        refine hR.mono ?_
        rintro e W7 (⟨rfl, hJ7, hk7⟩ | ⟨rfl, hJx7⟩)
        · gi_wp2
          go_roundw
          case rel => exact ⟨k + 1, by omega, by go_num, by rw [HT.out]; exact hJ7, hk6.trans hk7⟩
          case measure => simp [intOf]; omega
        · gi_wp2
          refine bodyPost_ret (results_none rfl _ _ _) rfl ?_
          exact ⟨⟨_, rfl⟩, .inr ⟨_, ⟨k + 1 + 1, HT.out.symm⟩, hJx7⟩⟩
      · have v1 : decide ((k : Int) < (m : Int)) = false := by simp; omega
        have v2 : decide (k < m) = false := by simp; omega
        obtain rfl : k = m := by omega
        have e : (List.finRange (k + 1)).take (k + 1) = List.finRange (k + 1) := List.take_of_length_le (by simp)
        rw [e] at hJs
        clear e
        gi_wp2
        go_end0
        exact ⟨⟨_, rfl⟩, .inl ⟨_, rfl, hJs⟩⟩
  · gi_wp2
    refine bodyPost_ret (results_none rfl _ _ _) rfl ?_
    exact ⟨⟨_, rfl⟩, .inr ⟨_, ⟨0 + 1, HT0.out.symm⟩, hJx4⟩⟩
end Go.Proofs.Ytfjfeomkmhbpbaa
