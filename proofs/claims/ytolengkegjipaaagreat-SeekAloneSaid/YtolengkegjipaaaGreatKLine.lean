/- What the functions of package lines answer. Conditions: those that each theorem names. -/
import Derived.Test.YtolengkegjipaaaGreatKBase
import Derived.Test.YtolengkegjipaaaGreatLineMath
import Derived.Test.YtolengkegjipaaaGreatKMF
import Derived.Deep.RegionWith
import Derived.BigQuiet
import Derived.Deep.QuietTactic
import Derived.Laws.StructEq
import Derived.Laws.BitsAllLaws
import Derived.Laws.BitsLemmas
import Derived.Laws.CopyRow
import Derived.OrdersIn
import Derived.TacticsIn
import Derived.Orders
import Derived.RangeFuncNested
import Derived.RangeFuncBox
import Derived.RangeFuncBound
import Derived.RangeFuncCalls
import Derived.RangeFuncLeaves
import Derived.Shelf.Abstract
import Derived.Shelf.RegionOpen
import Derived.WalkKit
import Derived.OwnWalkIn
import Derived.TacticsInMore
import Derived.LoopNIn
import Derived.LoopIn
import Derived.Maps.AppendAt
namespace Go.Proofs.YtolengkegjipaaaGreat
open Go.ChangeShapes Go.WideShapes Go.ChangeAt Go.RowKit
set_option linter.unusedVariables false
/-- What hands back a row of the call's own. -/
def RowBack (w0 : World) (e : TypeId) (k : IntKind) (zs : List Int) (r : Ending) (w' : World) : Prop := ∃ v, r = .returned v ∧ Row w' w0.heap.size e k v zs ∧ Ext w0 w'

theorem eight {ls : List Int} (h : ls.length = 8) : ∃ a b c d e f g i : Int, ls = [a, b, c, d, e, f, g, i] := by
  match ls, h with
  | [a, b, c, d, e, f, g, i], _ => exact ⟨a, b, c, d, e, f, g, i, rfl⟩
end Go.Proofs.YtolengkegjipaaaGreat


/- What the functions of package lines answer, and those of the document's answer for it. Conditions: those that each theorem names. -/
namespace Go.Proofs.YtolengkegjipaaaGreat
open Go.ChangeShapes Go.WideShapes Go.ChangeAt Go.RowKit
set_option linter.unusedVariables false
end Go.Proofs.YtolengkegjipaaaGreat


/- Words, Zero, together and word of package lines; and flat, Same, May, Bytes, Words of the document's answer for it. Conditions: those that each theorem names. -/
namespace Go.Proofs.YtolengkegjipaaaGreat
open Go.ChangeShapes Go.WideShapes Go.ChangeAt Go.RowKit
set_option linter.unusedVariables false
theorem reti {k : IntKind} {a b : Int} (h : a = b) : Ending.returned (.int k a) = .returned (.int k b) := by rw [h]
theorem new8 (w : World) (t : TypeId) (a b c d e f g i : Int) : ∀ j, j < [a, b, c, d, e, f, g, i].length → (w.alloc (.cells #[.int .u64 a, .int .u64 b, .int .u64 c, .int .u64 d, .int .u64 e, .int .u64 f, .int .u64 g, .int .u64 i] t)).cell? ((⟨w.heap.size, 0, none⟩ : Addr).add j) = some (.int .u64 ([a, b, c, d, e, f, g, i].getD j 0)) := fun j hj => by
  have hj' : j < 8 := hj
  rw [at0, cell_of_row _ _ _ _ _ _ (heap_alloc_new w _)]
  match j, hj' with
  | 0, _ => rfl
  | 1, _ => rfl
  | 2, _ => rfl
  | 3, _ => rfl
  | 4, _ => rfl
  | 5, _ => rfl
  | 6, _ => rfl
  | 7, _ => rfl
theorem take_step (zs : List Int) (i : Nat) (h : i < zs.length) : ∃ x, zs.getD i 0 = x ∧ zs.take (i + 1) = zs.take i ++ [x] :=
  ⟨zs[i], by simp [List.getD_eq_getElem?_getD, h], List.take_succ_eq_append_getElem h⟩
theorem add_add (a : Addr) (i j : Nat) : (a.add i).add j = a.add (i + j) := by
  unfold Addr.add
  by_cases hi : i = 0 <;> by_cases hj : j = 0 <;> simp [hi, hj, Nat.add_assoc]
set_option maxRecDepth 100000 in
set_option maxHeartbeats 400000 in
theorem words_of (w : World) (A : Option Addr) (n c : Nat) (zs : List Int) (hz : zs.length = 8 * n) (hn : n ≤ 1000000) (hlim : Lim zs 18446744073709551616) (hA : Ints w .u64 A zs) :
    Calls Tryz.prog 54 #[.slice A n c] w (RowBack w 53 .u64 zs) := by
  obtain ⟨M, hmk, hrw⟩ : ∃ M : Array Value, (∀ W, (Instr.makeSlice 65 (.int .i64 0) (.int .i64 ((n : Int) * 8))).run Tryz.prog W = .ok (.slice (some ⟨W.heap.size, 0, none⟩) 0 (n * 8)) (W.alloc (.cells M 53))) ∧ ∀ W : World, Row (W.alloc (.cells M 53)) W.heap.size 53 .u64 (.slice (some ⟨W.heap.size, 0, none⟩) 0 (n * 8)) [] :=
    ⟨_, fun W => make_words 0 (n * 8) (by omega) (by omega) W, fun W => Row.made W _ 0 (n * 8) .u64 (by omega) (by omega)⟩
  have HR := Lib.hid (hrw w)
  clear hrw
  go_enter Tryz.func54, Tryz.ntmps54
  go_wp2_with fail
  go_loopw [3, 12] (fun u i wr => ∃ k : Nat, k ≤ n ∧ i = .int .i64 k ∧ Row wr w.heap.size 53 .u64 u (zs.take (8 * k)) ∧ Ext w wr) (fun _ i _ => n - (intOf i).toNat)
  case atStart => exact ⟨0, Nat.zero_le _, rfl, by simpa using HR.out, (Ext.refl w).alloc _⟩
  case round =>
    obtain ⟨k, hk, rfl, hrow', hext⟩ := hrel
    by_cases hlt : k < n
    · have hd : decide ((k : Int) < (n : Int)) = true := by simp; omega
      obtain ⟨ad, rfl, hb, hc⟩ := (hA.ext hext) (by omega)
      obtain ⟨a0, a1, a2, a3, a4, a5, a6, a7, h1, h2, hl8, c0, c1, c2, c3, c4, c5, c6, c7⟩ := line_at hc k (by omega) hlim
      clear hc h1
      have H2 := Lib.hid h2
      clear h2
      have hlen : (zs.take (8 * k)).length + 8 < 1000000000 := by rw [List.length_take]; omega
      have HL := Lib.hid hlen
      clear hlen
      generalize zs.take (8 * k) = P at *
      go_wp2_with ((at_builtin; refine Hid.out ?_))
      refine Lib.hid ?_
      refine wpList_appN rfl _ _ 65 rfl 53 .u64 1 8 (.int .u64 0) word_info rfl (by decide) (by decide) Tryz.underlying65 w _ _ P.length P (by rfl) (by exact RowN.of_row (hrow'.ext ((Ext.refl wr).alloc _))) (by exact hext.alloc _) ⟨wr.heap.size, 0, none⟩ 8 8 [a0, a1, a2, a3, a4, a5, a6, a7] (by rfl) rfl (by exact new8 wr _ a0 a1 a2 a3 a4 a5 a6 a7) HL.out ?_
      intro v' w' hrow2 hext2 _ _
      go_wp2_with fail
      go_roundw
      case rel => exact ⟨k + 1, by omega, by go_num, by rw [H2.out]; exact hrow2.row, hext2⟩
      case measure => simp [intOf]; omega
    · have hd : decide ((k : Int) < (n : Int)) = false := by simp; omega
      obtain rfl : k = n := by omega
      have e : zs.take (8 * k) = zs := List.take_of_length_le (by omega)
      rw [e] at hrow'
      clear e
      go_wp2_with fail
      go_ret
      exact ⟨_, rfl, hrow', hext⟩
end Go.Proofs.YtolengkegjipaaaGreat


/- The page's example of lines; what Cut and Image answer to what is no lines; Same. Conditions: those that each theorem names. -/
namespace Go.Proofs.YtolengkegjipaaaGreat
open Go.ChangeShapes Go.WideShapes Go.ChangeAt Go.RowKit
set_option linter.unusedVariables false
theorem drewN_ext (w : World) (n : Nat) : Ext w (w.drewN n) := ⟨rfl, rfl, rfl, Nat.le_refl _, fun _ _ => rfl⟩
end Go.Proofs.YtolengkegjipaaaGreat


/- Two lines compared by their value. Conditions: none. -/
namespace Go.Proofs.YtolengkegjipaaaGreat
open Go.ChangeShapes Go.WideShapes Go.ChangeAt Go.RowKit
set_option linter.unusedVariables false
end Go.Proofs.YtolengkegjipaaaGreat


/- word and together of package lines. Conditions: those that each theorem names. -/
namespace Go.Proofs.YtolengkegjipaaaGreat
open Go.ChangeShapes Go.WideShapes Go.ChangeAt Go.RowKit
set_option linter.unusedVariables false
theorem setRow_new (w : World) (cs cs' : Array Value) (t : TypeId) : (w.alloc (.cells cs t)).setRow w.heap.size cs' = w.alloc (.cells cs' t) := by
  unfold World.setRow World.alloc
  congr 1
  apply Array.ext
  · simp
  · intro i h1 h2
    simp only [Array.getElem_modify, Array.getElem_push]
    simp only [Array.size_modify, Array.size_push] at h1
    by_cases hi : i = w.heap.size
    · subst hi; simp
    · rw [if_neg (fun h => hi h.symm)]
      rw [dif_pos (by omega), dif_pos (by omega)]
theorem ints_cells {w : World} {k : IntKind} {ad : Addr} {zs : List Int} (h : Ints w k (some ad) zs) : ∀ j v, (zs.map (Value.int k))[j]? = some v → w.cell? (ad.add j) = some v := fun j v hv => by
  have hj : j < zs.length := by
    rcases Nat.lt_or_ge j zs.length with h1 | h1
    · exact h1
    · rw [List.getElem?_eq_none (by simpa using h1)] at hv; cases hv
  obtain ⟨ad', e, _, hc⟩ := h (by omega)
  injection e with e
  subst e
  rw [hc j hj]
  simp [List.getD_eq_getElem?_getD, hj] at hv ⊢
  exact hv
set_option maxRecDepth 100000 in
set_option maxHeartbeats 400000 in
theorem together_of (ad : Addr) (c : Nat) (a0 a1 a2 a3 a4 a5 a6 a7 : Int) (w : World) (hA : Ints w .u64 (some ad) [a0, a1, a2, a3, a4, a5, a6, a7]) :
    Calls Tryz.prog 68 #[.slice (some ad) 8 c] w fun e w' => e = .returned (.agg #[.int .u64 a0, .int .u64 a1, .int .u64 a2, .int .u64 a3, .int .u64 a4, .int .u64 a5, .int .u64 a6, .int .u64 a7]) ∧ Ext w w' := by
  have hcp : (Builtin.copy_ #[65, 65] 3 #[.slice (some ⟨w.heap.size + 1, 0, none⟩) 8 8, .slice (some ad) 8 c]).run Tryz.prog ((w.alloc (.cells z8 133)).alloc (.cells z8 133)) = .ok (goInt 8) ((w.alloc (.cells z8 133)).alloc (.cells #[.int .u64 a0, .int .u64 a1, .int .u64 a2, .int .u64 a3, .int .u64 a4, .int .u64 a5, .int .u64 a6, .int .u64 a7] 133)) := by
    have h := run_copy_row (P := Tryz.prog) ((w.alloc (.cells z8 133)).alloc (.cells z8 133)) 65 65 3 53 (w.alloc (.cells z8 133)).heap.size 0 8 8 ad 8 c z8 133 ([a0, a1, a2, a3, a4, a5, a6, a7].map (Value.int .u64))
      Tryz.underlying65 (by kernel_rfl) (heap_alloc_new _ _) rfl (ints_cells (hA.ext (((Ext.refl w).alloc _).alloc _))) (Nat.le_refl 8) (by intro v hv; obtain ⟨y, _, rfl⟩ := List.mem_map.1 hv; rfl)
    rw [setRow_new, World.size_alloc] at h
    exact h
  unfold z8 at hcp
  go_enter Tryz.func68, Tryz.ntmps68
  go_wp2_with fail
  exact bodyPost_ret (v := .agg #[.int .u64 a0, .int .u64 a1, .int .u64 a2, .int .u64 a3, .int .u64 a4, .int .u64 a5, .int .u64 a6, .int .u64 a7]) (by simp [results, Tryz.results68, go_sem]) rfl ⟨rfl, by repeat (first | exact Ext.refl w | refine Ext.alloc ?_ _ | refine Ext.setCell ?_ (by simp) _)⟩
end Go.Proofs.YtolengkegjipaaaGreat


/- A statement whose order is open, walked order by order: all orders are listed, and each is a plain row of operations. Conditions: the program follows mixed orders. -/
namespace Go.Proofs.YtolengkegjipaaaGreat
open Go.RowKit
set_option linter.unusedVariables false

/-- All orders in which the operations that are not listed yet may come. -/
def orders (ops : Array Oper) : Nat → Array Bool → List (List Nat)
  | 0, _ => [[]]
  | fuel + 1, listed =>
    match Region.ready .any ops listed with
    | [] => [[]]
    | r :: rs => (r :: rs).flatMap fun i => (orders ops fuel (listed.setIfInBounds i true)).map (i :: ·)

theorem mem_orders (ops : Array Oper) : ∀ (fuel t : Nat) (listed : Array Bool), Region.linearise.go .any ops fuel t listed [] ∈ orders ops fuel listed := by
  intro fuel
  induction fuel with
  | zero => intro t listed; simp [Region.linearise.go, orders]
  | succ fuel ih =>
    intro t listed
    simp only [Region.linearise.go]
    change (match (Region.ready .any ops listed)[t % (Region.ready .any ops listed).length]? with
      | some i => Region.linearise.go .any ops fuel (t / (Region.ready .any ops listed).length) (listed.setIfInBounds i true) [i]
      | none => [].reverse) ∈ orders ops (fuel + 1) listed
    unfold orders
    cases hr : Region.ready .any ops listed with
    | nil => simp
    | cons x xs =>
      have hlt : t % (x :: xs).length < (x :: xs).length := Nat.mod_lt _ (by simp)
      rw [List.getElem?_eq_getElem hlt]
      simp only []
      rw [linearise_go_acc, List.reverse_singleton, List.singleton_append, List.mem_flatMap]
      exact ⟨_, List.getElem_mem hlt, List.mem_map.2 ⟨_, ih _ _, rfl⟩⟩

section
variable {F : Fence} {n : Nat} {P : Program} {ops : Array Oper} {Q : Exit → Act → World → Prop}
theorem wpOpsIn_listed (l : List Nat) : ∀ (a : Act) (w : World), wpListIn F n P ops Q (l.filterMap (ops[·]?)) a w → wpOpsIn F n P ops Q l a w := by
  induction l with
  | nil => intro a w h; exact h
  | cons i l ih =>
    intro a w h
    rw [wpOpsIn_cons]
    unfold wpOpIn
    rw [List.filterMap_cons] at h
    cases ho : ops[i]? with
    | none => rw [ho] at h; exact ih a w h
    | some o =>
      rw [ho] at h
      simp only [wpListIn] at h ⊢
      split at h
      · rename_i hw
        rw [if_pos hw]
        exact Oper.wpIn_mono (fun a w k => ih a w k) h
      · rename_i hw
        rw [if_neg hw]
        exact ⟨h.1, ih _ _ h.2⟩
/-- Whatever order is drawn, it is one of those listed. -/
theorem wpIn_region_orders {id : Nat} {a : Act} {w : World} (hm : P.follows .mixedOrders = true) (L : List (List Nat)) (hL : orders ops ops.size (Array.replicate ops.size false) = L)
    (h : ∀ l ∈ L, wpListIn F n P ops Q (l.filterMap (ops[·]?)) a w.drew) : (Code.region id ops true).wpIn F n P Q a w :=
  wpIn_region_draw fun t => by
    simp only [Region.schedule, hm, Bool.true_or, if_true]
    exact wpOpsIn_listed _ a _ (h _ (hL ▸ mem_orders ops ops.size t _))
end
end Go.Proofs.YtolengkegjipaaaGreat


/- The iterator of package lines that yields parts of one size, and what a loop over it may keep. Conditions: those that each theorem names. -/
namespace Go.Proofs.YtolengkegjipaaaGreat
open Go.ChangeShapes Go.WideShapes Go.ChangeAt Go.RowKit Go.Shelf
set_option linter.unusedVariables false
attribute [local go_sem] Oper.semAt_some
/-- The blocks of S are as they were. -/
def KeepAt (S : Nat → Prop) (W W' : World) : Prop := ∀ g, S g → W'.heap[g]? = W.heap[g]?
theorem KeepAt.refl (S : Nat → Prop) (W : World) : KeepAt S W W := fun _ _ => rfl
theorem KeepAt.trans {S : Nat → Prop} {A B C : World} (h : KeepAt S A B) (k : KeepAt S B C) : KeepAt S A C := fun g hg => (k g hg).trans (h g hg)
theorem KeepAt.cell {S : Nat → Prop} {W W' : World} (h : KeepAt S W W') {g : Nat} (hg : S g) (o : Nat) : W'.cell? ⟨g, o, none⟩ = W.cell? ⟨g, o, none⟩ := World.cell?_of_block (h g hg)
theorem KeepAt.putObj {S : Nat → Prop} {B : Nat} (hS : ∀ g, S g → g < B) (W : World) (l : Nat) (o' : Obj) (hl : B ≤ l) : KeepAt S W (W.putObj l o') := fun g hg =>
  World.putObj_heap_other (fun e => by have := hS g hg; omega)
theorem finRange_take_succ (m k : Nat) (h : k < m) : (List.finRange m).take (k + 1) = (List.finRange m).take k ++ [⟨k, h⟩] := by
  rw [List.take_succ_eq_append_getElem (by simpa using h)]
  simp
set_option maxRecDepth 100000 in
set_option maxHeartbeats 2000000 in
theorem partW81_in (F : Fence) (n : Nat) (hfn : F.fn 92) (hro : F.round = none) (hn : 1 ≤ n) (l Bz Bi m cap : Nat) (A : Option Addr) (hA : 0 < m → ∃ ad, A = some ad) (hcap : m * 8 ≤ cap) (hcm : cap ≤ 9223372036854775807) (hm : m ≤ 1000000000) (S : Nat → Prop) (hSz : S Bz) (hSi : S Bi) (J Jx : List (Fin m) → World → Prop)
    (hY : ∀ pre x W, J pre W → pre.length < m → YieldAt F (n - 1) Tryz.prog l #[.slice (A.map (·.add (8 * x.val))) 8 8] W fun e W' =>
      (e = .returned (.bool true) ∧ J (pre ++ [x]) W' ∧ KeepAt S W W') ∨ (e = .returned (.bool false) ∧ Jx (pre ++ [x]) W'))
    (W : World) (hBz : W.cell? ⟨Bz, 0, none⟩ = some (.int .i64 8)) (hBi : W.cell? ⟨Bi, 0, none⟩ = some (.slice A (m * 8) cap)) (h0 : J [] W) :
    CallsIn F n Tryz.prog 92 #[.func (.yield l) #[] #[], .pointer (some ⟨Bz, 0, none⟩), .pointer (some ⟨Bi, 0, none⟩)] W fun e W' => (∃ v, e = .returned v) ∧
      ((∃ ys, ys = List.finRange m ∧ J ys W') ∨ (∃ pre, True ∧ Jx pre W')) := by
  refine callsIn_of_wp Tryz.func92 rfl hfn ?_ hro
  simp only [Tryz.ntmps92, List.size_toArray, List.length_cons, List.length_nil, Nat.reduceAdd, Nat.reduceSub, Array.replicate_succ, Array.replicate_zero, List.push_toArray, List.append_toArray, List.nil_append, List.cons_append]
  gi_wp2
  gi_loopw [4] (fun i wr => ∃ k : Nat, k ≤ m ∧ i = .int .i64 (8 * (k : Int)) ∧ J ((List.finRange m).take k) wr ∧ KeepAt S W wr)
    (fun i _ => m * 8 - (intOf i).toNat)
  case atStart => exact ⟨0, Nat.zero_le _, rfl, h0, KeepAt.refl _ _⟩
  case round =>
    obtain ⟨k, hk, rfl, hJs, hkp⟩ := hrel
    have hz : wr.cell? ⟨Bz, 0, none⟩ = some (.int .i64 8) := (hkp.cell hSz 0).trans hBz
    have hi : wr.cell? ⟨Bi, 0, none⟩ = some (.slice A (m * 8) cap) := (hkp.cell hSi 0).trans hBi
    by_cases hlt : k < m
    · have hd : decide (8 * (k : Int) + 8 ≤ ((m * 8 : Nat) : Int)) = true := by simp; omega
      have hd2 : 8 * (k : Int) + 8 ≤ (m : Int) * 8 := by omega
      obtain ⟨ad, rfl⟩ := hA (by omega)
      obtain ⟨fn, tmps, assign, body, hy, hR⟩ := hY _ ⟨k, hlt⟩ wr hJs (by rw [List.length_take, List.length_finRange]; omega)
      dsimp only [Option.map] at hy
      have HT := Lib.hid (finRange_take_succ m k hlt)
      gi_wp2
      refine hR.mono ?_
      rintro e W3 (⟨rfl, hJ3, hk3⟩ | ⟨rfl, hJx3⟩)
      · have hz3 : W3.cell? ⟨Bz, 0, none⟩ = some (.int .i64 8) := (hk3.cell hSz 0).trans hz
        gi_wp2
        go_roundw
        case rel => exact ⟨k + 1, by omega, by go_num, by rw [HT.out]; exact hJ3, hkp.trans hk3⟩
        case measure => simp [intOf]; omega
      · gi_wp2
        refine bodyPost_ret (results_none rfl _ _ _) rfl ?_
        exact ⟨⟨_, rfl⟩, .inr ⟨_, trivial, hJx3⟩⟩
    · obtain rfl : k = m := by omega
      have hd : decide (8 * (k : Int) + 8 ≤ ((k * 8 : Nat) : Int)) = false := by simp; omega
      have hd2 : ¬ (8 * (k : Int) + 8 ≤ (k : Int) * 8) := by omega
      have e : (List.finRange k).take k = List.finRange k := List.take_of_length_le (by simp)
      rw [e] at hJs
      clear e
      gi_wp2
      go_end0
      exact ⟨⟨_, rfl⟩, .inl hJs⟩
set_option maxHeartbeats 1000000 in
theorem partW8_in (F : Fence) (n : Nat) (hfn : F.fn 84) (hro : F.round = none) (A : Option Addr) (len cap : Nat) (w : World) :
    CallsIn F n Tryz.prog 84 #[.slice A len cap, .int .i64 8] w fun e w' => e = .returned (.func (.func 92) #[] #[.pointer (some ⟨w.heap.size + 1, 0, none⟩), .pointer (some ⟨w.heap.size, 0, none⟩)]) ∧ w' = (w.alloc (.cells #[.slice A len cap] 65)).alloc (.cells #[.int .i64 8] 3) := by
  refine callsIn_of_wp Tryz.func84 rfl hfn ?_ hro
  simp only [Tryz.ntmps84, List.size_toArray, List.length_cons, List.length_nil, Nat.reduceAdd, Nat.reduceSub, Array.replicate_succ, Array.replicate_zero, List.push_toArray, List.append_toArray, List.nil_append, List.cons_append]
  gi_wp2
  go_ret
  exact ⟨rfl, rfl⟩
theorem partW8_stops (F : Fence) (n : Nat) (hfn : F.fn 92) (hro : F.round = none) (hn : 1 ≤ n) (Bz Bi m cap : Nat) (A : Option Addr) (hA : 0 < m → ∃ ad, A = some ad) (hcap : m * 8 ≤ cap) (hcm : cap ≤ 9223372036854775807) (hm : m ≤ 1000000000) (S : Nat → Prop) (hSz : S Bz) (hSi : S Bi) (w : World) (hz : Bz < w.heap.size) (hi : Bi < w.heap.size)
    (hBz : w.cell? ⟨Bz, 0, none⟩ = some (.int .i64 8)) (hBi : w.cell? ⟨Bi, 0, none⟩ = some (.slice A (m * 8) cap)) :
    SeqStopsK F n Tryz.prog 92 #[.pointer (some ⟨Bz, 0, none⟩), .pointer (some ⟨Bi, 0, none⟩)] (fun x : Fin m => #[.slice (A.map (·.add (8 * x.val))) 8 8]) (KeepAt S) (fun ys => ys = List.finRange m) (fun _ => True) m w := fun l J Jx W hW _ _ hY h0 =>
  partW81_in F n hfn hro hn l Bz Bi m cap A hA hcap hcm hm S hSz hSi J Jx hY W ((hW.cell (p := ⟨Bz, 0, none⟩) hz).trans hBz) ((hW.cell (p := ⟨Bi, 0, none⟩) hi).trans hBi) h0
end Go.Proofs.YtolengkegjipaaaGreat


/- line of package lines: the line of 64 bytes, gathered by a loop over an iterator. Conditions: those that each theorem names. -/
namespace Go.Proofs.YtolengkegjipaaaGreat
open Go.ChangeShapes Go.WideShapes Go.ChangeAt Go.RowKit Go.Shelf
set_option linter.unusedVariables false
attribute [local go_sem] Oper.semAt_some
/-- A fence that lets all by, under a name. -/
theorem wide_fence : ∃ (F : Fence) (n : Nat), Hid (F = Fence.wide) ∧ (∀ f, F.fn f) ∧ F.round = none ∧ 3 ≤ n := ⟨Fence.wide, 3, Lib.hid rfl, fun _ => trivial, rfl, Nat.le_refl _⟩
theorem mixed : Tryz.prog.follows .mixedOrders = true := by kernel_rfl
theorem Ext.others {W X : World} (h : Ext W X) : KeepsOthers W X := ⟨h.size, fun k o hk _ => (h.block k (Array.getElem?_eq_some_iff.1 hk).1).trans hk⟩
/-- 'The blocks of S are as they were at first' speaks of cells alone. -/
theorem keepAt_own {β : Type} {S : Nat → Prop} {W0 : World} (hS : ∀ g, S g → ∃ c t f, W0.heap[g]? = some (.cells c t f)) : Own (fun (_ : β) W => KeepAt S W0 W) := by
  intro s W W' row h hg hr g hSg
  obtain ⟨c, t, f, hc⟩ := hS g hSg
  have hW : W.heap[g]? = some (.cells c t f) := (h g hSg).trans hc
  rw [hg.block g (Array.getElem?_eq_some_iff.1 hW).1 (fun e => by obtain ⟨o, ho, hn⟩ := hr g e.symm; rw [hW] at ho; cases ho; cases hn)]
  exact h g hSg
/-- 'out = append(out, ..)', of a variable in a box, whatever was laid between. -/
theorem collect_step {W X w1 W0 : World} {n₀ B : Nat} {t e : TypeId} {size : Nat} {v v' : Value} {k m : Nat} {xs ys : List Value} {S : Nat → Prop}
    (hv : Boxed W B t v) (hte : t ≠ e) (hrow : W.ownsRow n₀ e size v k xs) (hn₀ : n₀ ≤ W.heap.size) (hB : n₀ ≤ B) (hx : Ext W X)
    (hk : KeepAt S W0 W) (hS : ∀ g, S g → g ≠ B ∧ ∃ c t' f, W0.heap[g]? = some (.cells c t' f) ∧ t' ≠ e)
    (hown' : w1.ownsRow n₀ e size v' m ys) (hgrow : X.grownBy w1 v.ownBlock) :
    Boxed w1 B t v ∧ Boxed (w1.setCell ⟨B, 0, none⟩ v') B t v' ∧ (w1.setCell ⟨B, 0, none⟩ v').ownsRow n₀ e size v' m ys ∧ KeepsOthers W (w1.setCell ⟨B, 0, none⟩ v') ∧ Below n₀ W (w1.setCell ⟨B, 0, none⟩ v') ∧ KeepAt S W (w1.setCell ⟨B, 0, none⟩ v') := by
  have hvX : Boxed X B t v := (hx.block B hv.lt).trans hv
  have hv1 : Boxed w1 B t v := hvX.kept hgrow (hv.not_row hte hrow)
  have hrb : ∀ j, v.ownBlock = some j → ∃ cur, W.heap[j]? = some (.cells cur e (0, 0)) ∧ n₀ ≤ j := fun j ej => by
    rcases hrow.2 with ⟨rfl, _⟩ | ⟨g, cap, cur, rfl, hb, hgb, _⟩
    · simp [Value.ownBlock] at ej
    · obtain rfl : g = j := by simpa [Value.ownBlock] using ej
      exact ⟨cur, hgb, hb⟩
  refine ⟨hv1, hv1.set v', hown'.kept (grownBy_setCell' w1 B v') (.inr (hv1.not_row hte hown').symm), ?_, ?_, ?_⟩
  · refine (hx.others.trans (KeepsOthers.of_grownBy hgrow fun j o ej hj => ?_)).trans (KeepsOthers.setCell _ _ _)
    obtain ⟨cur, hc, _⟩ := hrb j ej
    rw [hx.block j (Array.getElem?_eq_some_iff.1 hc).1, hc] at hj
    cases hj; rfl
  · exact ((Below.mono hx.below hn₀).grown hgrow (Nat.le_trans hn₀ hx.size) fun j ej => (hrb j ej).choose_spec.2).setCell (p := ⟨B, 0, none⟩) hB v'
  · intro g hSg
    obtain ⟨hne, c, t', f, hc, ht⟩ := hS g hSg
    have hW : W.heap[g]? = some (.cells c t' f) := (hk g hSg).trans hc
    have hlt := (Array.getElem?_eq_some_iff.1 hW).1
    rw [Below.heap_setCell w1 ⟨B, 0, none⟩ v' g hne, hgrow.block g (Nat.lt_of_lt_of_le hlt hx.size) (fun e' => by
      obtain ⟨cur, hcur, _⟩ := hrb g e'.symm
      rw [hW] at hcur
      injection hcur with hcur
      injection hcur with _ h2
      exact ht h2), hx.block g hlt]
/-- The part of a text, as it reads. -/
theorem Ints.part {w : World} {k : IntKind} {ad : Addr} {zs : List Int} (h : Ints w k (some ad) zs) (s n : Nat) (hs : s + n ≤ zs.length) (hn : 0 < n) : Ints w k (some (ad.add s)) ((zs.drop s).take n) := fun _ => by
  obtain ⟨ad', e, hb, hc⟩ := h (by omega)
  injection e with e
  subst e
  refine ⟨_, rfl, by rw [add_block]; exact hb, fun j hj => ?_⟩
  have hj' : j < n := by rw [List.length_take] at hj; omega
  rw [add_add, hc (s + j) (by omega)]
  simp only [List.getD_eq_getElem?_getD]
  rw [List.getElem?_take, if_pos hj', List.getElem?_drop]
theorem setCell_size (W : World) (p : Addr) (u : Value) : (W.setCell p u).heap.size = W.heap.size := by simp [World.setCell]
/-- Of the blocks just g has turned. -/
structure Turned (g : Nat) (w w' : World) : Prop where
  os : w'.os = w.os
  tape : w'.tape = w.tape
  output : w'.output = w.output
  size : w'.heap.size = w.heap.size
  other : ∀ k, k ≠ g → w'.heap[k]? = w.heap[k]?
theorem Turned.refl (g : Nat) (w : World) : Turned g w w := ⟨rfl, rfl, rfl, rfl, fun _ _ => rfl⟩
theorem Turned.set {g : Nat} {w w' : World} (h : Turned g w w') (j : Nat) (u : Value) : Turned g w (w'.setCell ⟨g, j, none⟩ u) :=
  ⟨h.os, h.tape, h.output, (setCell_size w' _ u).trans h.size, fun k hk => (Below.heap_setCell w' ⟨g, j, none⟩ u k hk).trans (h.other k hk)⟩
end Go.Proofs.YtolengkegjipaaaGreat

