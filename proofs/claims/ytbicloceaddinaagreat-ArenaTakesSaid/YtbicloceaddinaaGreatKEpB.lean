/- Package epoch: the iterator over the threads that an Advance has not asked, and what a range over it may keep. Conditions: those that each theorem names. -/
import Derived.RangeFuncNested
import Derived.RangeFuncBox
import Derived.RangeFuncBound
import Derived.RangeFuncCalls
import Derived.RangeFuncLeaves
import Derived.Shelf.Abstract
import Derived.Shelf.RegionOpen
import Derived.WalkKit
import Derived.OwnWalkIn
import Derived.TacticsInMore
import Derived.LoopNIn
import Derived.LoopIn
import Derived.Test.YtbicloceaddinaaGreatKEpA
namespace Go.Proofs.YtbicloceaddinaaGreat
open Go.ChangeShapes Go.WideShapes Go.ChangeAt Go.RowKit Go.Shelf
set_option linter.unusedVariables false
attribute [local go_sem] Oper.semAt_some
/-- The blocks of S are as they were (for epoch's iterator). -/
def KeepE (S : Nat → Prop) (W W' : World) : Prop := ∀ g, S g → W'.heap[g]? = W.heap[g]?
theorem KeepE.refl (S : Nat → Prop) (W : World) : KeepE S W W := fun _ _ => rfl
theorem KeepE.trans {S : Nat → Prop} {A B C : World} (h : KeepE S A B) (k : KeepE S B C) : KeepE S A C := fun g hg => (k g hg).trans (h g hg)
theorem KeepE.putObj {S : Nat → Prop} {B : Nat} (hS : ∀ g, S g → g < B) (W : World) (l : Nat) (o' : Obj) (hl : B ≤ l) : KeepE S W (W.putObj l o') := fun g hg =>
  World.putObj_heap_other (fun e => by have := hS g hg; omega)
theorem Ext.grown {W W' : World} (h : Ext W W') : W.grownBy W' none := ⟨h.os, h.tape, h.output, h.size, fun k hk _ => h.block k hk⟩
theorem finRange_take_more (m k : Nat) (h : k < m) : (List.finRange m).take (k + 1) = (List.finRange m).take k ++ [⟨k, h⟩] := by
  rw [List.take_succ_eq_append_getElem (by simpa using h)]
  simp
set_option maxRecDepth 100000 in
set_option maxHeartbeats 2000000 in
theorem unask1_in (n : Nat) (hn : 1 ≤ n) (l B gp gl k0 m : Nat) (hk : k0 ≤ 1000000) (hm : m ≤ 1000000) (W : World) (F : Nat → Int) (T : Int) (hTm : T = (k0 : Int) + (m : Int)) (hT : F 0 = T) (ac : List Value) (a0 : ac[0]? = some (.pointer (some ⟨gl, 0, none⟩))) (a5 : ac[5]? = some (.int .i64 (k0 : Int))) (S : Nat → Prop) (sB : S B) (sp : S gp) (sl : S gl) (hS : ∀ g, S g → g < W.heap.size) (J Jx : List (Fin m) → World → Prop)
    (hJ : ∀ s W W', J s W → Ext W W' → J s W')
    (hY : ∀ pre x W, J pre W → pre.length < m → YieldAt Fence.wide (n - 1) Tryz.prog l #[.int .i64 ((k0 : Int) + (x.val : Int))] W fun e W' =>
      (e = .returned (.bool true) ∧ J (pre ++ [x]) W' ∧ KeepE S W W') ∨ (e = .returned (.bool false) ∧ Jx (pre ++ [x]) W'))
    (hB : Blk W B 147 [.pointer (some ⟨gp, 0, none⟩)]) (hp : Blk W gp 250 ac) (hl : Blk W gl 173 (cellsF F)) (h0 : J [] W) :
    CallsIn Fence.wide n Tryz.prog 241 #[.func (.yield l) #[] #[], .pointer (some ⟨B, 0, none⟩)] W fun e W' => (∃ v, e = .returned v) ∧
      ((∃ ys, ys = List.finRange m ∧ J ys W') ∨ (∃ pre, (∃ j, pre = (List.finRange m).take j) ∧ Jx pre W')) := by
  have HK : Hid (∀ W2, KeepE S W W2 → W2.cell? ⟨B, 0, none⟩ = some (.pointer (some ⟨gp, 0, none⟩)) ∧ W2.cell? ⟨gp, 0, none⟩ = some (.pointer (some ⟨gl, 0, none⟩)) ∧ (∀ g, S g → True)) := Lib.hid (fun W2 k => by
    have b1 : Blk W2 B 147 [.pointer (some ⟨gp, 0, none⟩)] := (k B sB).trans hB
    have b2 : Blk W2 gp 250 ac := (k gp sp).trans hp
    exact ⟨b1.cell 0, by rw [b2.cell 0]; exact a0, fun _ _ => trivial⟩)
  have HC : Hid (∀ W2, KeepE S W W2 → CallsIn Fence.wide (n - 1) Tryz.prog 110 #[.pointer (some ⟨gl, 0, none⟩)] W2 fun e w' => e = .returned (.agg #[.int .i64 T, .int .i64 (F 1), .int .i64 (F 2), .int .i64 (F 3)]) ∧ Ext W2 w') := Lib.hid (fun W2 k => callsIn_wide.2 (tConfig_any (some ⟨gl, 0, none⟩) (cellsF F) T (F 1) (F 2) (F 3) W2 (Or.inl ⟨gl, rfl, (k gl sl).trans hl⟩) (by rw [cellsF_at F 0 (by omega), hT]) (cellsF_at F 1 (by omega)) (cellsF_at F 2 (by omega)) (cellsF_at F 3 (by omega))))
  have HE : Hid (∀ W2 W3, KeepE S W W2 → Ext W2 W3 → KeepE S W W3) := Lib.hid (fun W2 W3 k x g hg => by
    have e := k g hg
    rw [Array.getElem?_eq_getElem (hS g hg)] at e
    exact (x.block g (Array.getElem?_eq_some_iff.1 e).1).trans (k g hg))
  have c0 : W.cell? ⟨B, 0, none⟩ = some (.pointer (some ⟨gp, 0, none⟩)) := hB.cell 0
  have c5 : W.cell? ⟨gp, 5, none⟩ = some (.int .i64 (k0 : Int)) := by rw [hp.cell 5]; exact a5
  have hfl := fun W => fldC0 T (F 1) (F 2) (F 3) W
  have HTm := Lib.hid hTm
  clear hB hp hl a0 a5 hT hTm
  refine callsIn_of_wp Tryz.func241 rfl trivial ?_ rfl
  simp only [Tryz.ntmps241, List.size_toArray, List.length_cons, List.length_nil, Nat.reduceAdd, Nat.reduceSub, Array.replicate_succ, Array.replicate_zero, List.push_toArray, List.append_toArray, List.nil_append, List.cons_append]
  gi_wp2
  clear c0 c5
  gi_loopw [3] (fun i wr => ∃ k : Nat, k ≤ m ∧ i = .int .i64 ((k0 : Int) + (k : Int)) ∧ J ((List.finRange m).take k) wr ∧ KeepE S W wr)
    (fun i _ => (k0 + m) - (intOf i).toNat)
  case atStart => exact ⟨0, Nat.zero_le _, by simp, h0, KeepE.refl _ _⟩
  case round =>
    obtain ⟨k, hkm, rfl, hJs, hkp⟩ := hrel
    obtain ⟨c0, c1, _⟩ := HK.out wr hkp
    gi_wp2_with (refine ⟨trivial, ?_⟩; gi_at_call 110; refine (HC.out wr hkp).mono ?_; rintro e w2 ⟨rfl, x2⟩)
    · have hk2 := HE.out wr w2 hkp x2
      have hJ2 := hJ _ _ _ hJs x2
      have hlo : (k0 : Int) + (k : Int) < T := by assumption
      have hlt : k < m := by have h := HTm.out; omega
      clear hlo
      obtain ⟨fn, tmps, assign, body, hy, hR⟩ := hY _ ⟨k, hlt⟩ w2 hJ2 (by rw [List.length_take, List.length_finRange]; omega)
      have HT := Lib.hid (finRange_take_more m k hlt)
      gi_wp2
      refine hR.mono ?_
      rintro e W3 (⟨rfl, hJ3, hk3⟩ | ⟨rfl, hJx3⟩)
      · gi_wp2
        go_roundw
        case rel => exact ⟨k + 1, by omega, by go_num, by rw [HT.out]; exact hJ3, hk2.trans hk3⟩
        case measure => simp [intOf]; omega
      · gi_wp2
        refine bodyPost_ret (results_none rfl _ _ _) rfl ?_
        exact ⟨⟨_, rfl⟩, .inr ⟨_, ⟨k + 1, HT.out.symm⟩, hJx3⟩⟩
    · have hJ2 := hJ _ _ _ hJs x2
      have hlo : ¬ ((k0 : Int) + (k : Int) < T) := by first | assumption | omega
      obtain rfl : k = m := by have h := HTm.out; omega
      have e : (List.finRange k).take k = List.finRange k := List.take_of_length_le (by simp)
      rw [e] at hJ2
      clear e
      go_end0
      exact ⟨⟨_, rfl⟩, .inl ⟨_, rfl, hJ2⟩⟩
set_option maxHeartbeats 1000000 in
theorem unasked_in (n : Nat) (gp : Nat) (w : World) :
    CallsIn Fence.wide n Tryz.prog 227 #[.pointer (some ⟨gp, 0, none⟩)] w fun e w' => e = .returned (.func (.func 241) #[] #[.pointer (some ⟨w.heap.size, 0, none⟩)]) ∧ w' = w.alloc (.cells #[.pointer (some ⟨gp, 0, none⟩)] 147) := by
  refine callsIn_of_wp Tryz.func227 rfl trivial ?_ rfl
  simp only [Tryz.ntmps227, List.size_toArray, List.length_cons, List.length_nil, Nat.reduceAdd, Nat.reduceSub, Array.replicate_succ, Array.replicate_zero, List.push_toArray, List.append_toArray, List.nil_append, List.cons_append]
  gi_wp2
  go_ret
  exact ⟨rfl, rfl⟩
theorem unask_stops (n : Nat) (hn : 1 ≤ n) (B gp gl k0 m : Nat) (hk : k0 ≤ 1000000) (hm : m ≤ 1000000) (w : World) (F : Nat → Int) (T : Int) (hTm : T = (k0 : Int) + (m : Int)) (hT : F 0 = T) (ac : List Value) (a0 : ac[0]? = some (.pointer (some ⟨gl, 0, none⟩))) (a5 : ac[5]? = some (.int .i64 (k0 : Int))) (S : Nat → Prop) (sB : S B) (sp : S gp) (sl : S gl) (hS : ∀ g, S g → g < w.heap.size)
    (hB : Blk w B 147 [.pointer (some ⟨gp, 0, none⟩)]) (hp : Blk w gp 250 ac) (hl : Blk w gl 173 (cellsF F)) :
    SeqStopsK Fence.wide n Tryz.prog 241 #[.pointer (some ⟨B, 0, none⟩)] (fun x : Fin m => #[.int .i64 ((k0 : Int) + (x.val : Int))]) (KeepE S) (fun ys => ys = List.finRange m) (fun pre => ∃ j, pre = (List.finRange m).take j) m w := fun l J Jx W hW hJ _ hY h0 =>
  have x : Ext w W := hW
  unask1_in n hn l B gp gl k0 m hk hm W F T hTm hT ac a0 a5 S sB sp sl (fun g hg => Nat.lt_of_lt_of_le (hS g hg) x.size) J Jx (fun s A C h e => hJ s A C none h e.grown (fun r hr => nomatch hr)) hY (hB.ext x) (hp.ext x) (hl.ext x) h0
end Go.Proofs.YtbicloceaddinaaGreat


/- A memory abides the turns of blocks that are no cells: what a range over a function keeps for itself. Conditions: those that each theorem names. -/
namespace Go.Proofs.YtbicloceaddinaaGreat
open Go.ChangeShapes Go.WideShapes Go.ChangeAt Go.RowKit Go.Shelf
set_option linter.unusedVariables false
attribute [local go_sem] Oper.semAt_some
theorem RowN.cells {w : World} {B : Nat} {e : TypeId} {size : Nat} {k : IntKind} {v : Value} {n : Nat} {zs : List Int} (h : RowN w B e size k v n zs) {g : Nat} (hg : v.ownBlock = some g) : ∃ c t f, w.heap[g]? = some (.cells c t f) := by
  rcases h.2 with ⟨rfl, _⟩ | ⟨g', cap, cur, rfl, _, hh, _⟩
  · simp [Value.ownBlock] at hg
  · have : g' = g := by simpa [Value.ownBlock] using hg
    subst this
    exact ⟨_, _, _, hh⟩
theorem IsDev.foot_cells {B : Nat} {w : World} {D : DevB} {s : DSt} (h : IsDev B w D s) {g : Nat} (hf : D.foot g) : ∃ c t f, w.heap[g]? = some (.cells c t f) := by
  rcases hf with rfl | rfl | rfl | rfl | rfl | ⟨t, ht, hg⟩
  · exact ⟨_, _, _, h.dev⟩
  · exact h.kept.cells rfl
  · exact h.seen.cells rfl
  · exact ⟨_, _, _, h.flb⟩
  · exact h.writes.cells rfl
  · exact (RowN.of_row (h.fl t (by rw [← h.lits]; exact ht))).cells hg
theorem Fr.putObj (W : World) (l : Nat) (o : Obj) : Fr (fun b => b = l) W (W.putObj l o) := ⟨rfl, rfl, rfl, by simp, fun g _ hn => World.putObj_heap_other hn⟩
section
variable {Q : Nat → Prop} {wb w0 w w' : World} {gm : Nat} {dv pv : Value} {s : MSt}
/-- A block that is no cells may be held, too. -/
theorem IsMem.also {r : Nat} (h : IsMem Q wb w0 w gm dv pv s) (hr : r < w.heap.size) (hn : ∀ c t f, w.heap[r]? ≠ some (.cells c t f)) : IsMem (fun g => Q g ∨ g = r) w w0 w gm dv pv s := by
  have e1 : r ≠ gm := fun e => by
    subst e
    exact hn _ _ _ h.blk
  have e2 : pv.ownBlock ≠ some r := fun e => by
    obtain ⟨c, t, f, hh⟩ := (RowN.of_row h.pas).cells e
    exact hn _ _ _ hh
  refine ⟨h.g0, h.blk, h.pas, ?_, h.pm, fun g hg => ?_, h.lp, h.ll⟩
  · obtain ⟨D, e, hd, x, hq⟩ := h.dev
    refine ⟨D, e, hd, x, fun g hg => ?_⟩
    rcases hg with hg | hg | hg | rfl
    · exact hq g (Or.inl hg)
    · exact hq g (Or.inr (Or.inl hg))
    · exact hq g (Or.inr (Or.inr hg))
    · exact ⟨hr, fun hf => by
        obtain ⟨c, t, f, hh⟩ := hd.foot_cells hf
        exact hn _ _ _ hh, rfl⟩
  · rcases hg with hg | rfl
    · exact ⟨(h.q g hg).1, (h.q g hg).2.1, rfl⟩
    · exact ⟨e1, e2, rfl⟩
/-- What a range over a function keeps for itself turns: the memory stands, and so does what is held. -/
theorem IsMem.grown {row : Option Nat} (h : IsMem Q w w0 w gm dv pv s) (hg : w.grownBy w' row) (hr : ∀ r, row = some r → w0.heap.size ≤ r ∧ ∃ o : Obj, w.heap[r]? = some o ∧ o.isCells = false) : IsMem Q w' w0 w' gm dv pv s := by
  cases row with
  | none => exact (h.ext (show Ext w w' from ⟨hg.os, hg.tape, hg.output, hg.size, fun k hk => hg.block k hk (by simp)⟩)).here
  | some r =>
    obtain ⟨h0, o, ho, hc⟩ := hr r rfl
    have m1 := h.also (r := r) (Array.getElem?_eq_some_iff.1 ho).1 (fun c t f e => by rw [e] at ho; cases ho; cases hc)
    have f : Fr (fun b => b = r) w w' := ⟨hg.os, hg.tape, hg.output, hg.size, fun g hg' hn => hg.block g hg' (fun e => hn (by injection e))⟩
    exact (m1.turn f (fun b e => Or.inr e) (fun b e => by rw [e]; exact h0)).less (fun g hg => Or.inl hg) (fun _ _ => rfl)
/-- At the end the block of the rounds' deferred calls turns. -/
theorem IsMem.defer {Q' : Nat → Prop} (h : IsMem Q w w0 w gm dv pv s) {D : Nat} (hD : Q D) (h0 : w0.heap.size ≤ D) (hQ : ∀ g, Q' g → Q g) (o : Obj) : IsMem Q' (w.putObj D o) w0 (w.putObj D o) gm dv pv s :=
  (h.turn (Fr.putObj w D o) (fun b e => by rw [e]; exact hD) (fun b e => by rw [e]; exact h0)).less hQ (fun _ _ => rfl)
end
theorem Blk.putObj {w : World} {g : Nat} {t : TypeId} {cs : List Value} (h : Blk w g t cs) {D : Nat} (hne : g ≠ D) (o : Obj) : Blk (w.putObj D o) g t cs := (World.putObj_heap_other hne).trans h
/-- A state of an Advance. -/
structure AMs where
  dn : Bool
  ld : Bool
  ep : Int
  asked : Nat
  mv : Bool
deriving DecidableEq
def AMs.cells (x : AMs) (gl : Nat) (t : Int) : List Value := acells gl t x.dn x.ld x.ep x.asked x.mv
structure AMs.Wf (x : AMs) (T : Nat) : Prop where
  ep : W64 x.ep
  asked : x.asked ≤ T
/-- What an Advance's step leaves. -/
def advS (F : Nat → Int) (T : Nat) (t : Int) (x : AMs) (s : MSt) : AMs × MSt :=
  if x.dn = true then (x, s)
  else if x.ld = false then (⟨false, true, peekV s (-1), x.asked, x.mv⟩, s.load t (-1))
  else if x.asked < T then (⟨holds x.ep (peekV s (ann F x.asked)), true, x.ep, x.asked + 1, x.mv⟩, s.load t (ann F x.asked))
  else (⟨true, true, x.ep, x.asked, swapB s (-1) x.ep⟩, s.swap t (-1) x.ep (next64 x.ep))
/-- The world in which a step of an Advance has laid its own variables. -/
def W3 (w : World) (gp gm : Nat) : World := ((w.alloc (.cells #[.pointer (some ⟨gp, 0, none⟩)] 147)).alloc (.cells #[.pointer (some ⟨gm, 0, none⟩)] 31)).alloc (.cells #[.bool false] 4)
theorem W3_facts (w : World) (gp gm : Nat) : Ext w (W3 w gp gm) ∧ Blk (W3 w gp gm) w.heap.size 147 [.pointer (some ⟨gp, 0, none⟩)] ∧ Blk (W3 w gp gm) (w.heap.size + 1) 31 [.pointer (some ⟨gm, 0, none⟩)] ∧ Blk (W3 w gp gm) (w.heap.size + 1 + 1) 4 [.bool false] ∧ (W3 w gp gm).heap.size = w.heap.size + 3 := by
  unfold W3
  have b0 := ((Blk.new w 147 [.pointer (some ⟨gp, 0, none⟩)]).ext ((Ext.refl _).alloc (.cells #[.pointer (some ⟨gm, 0, none⟩)] 31))).ext ((Ext.refl _).alloc (.cells #[.bool false] 4))
  have b1 := (Blk.new (w.alloc (.cells #[.pointer (some ⟨gp, 0, none⟩)] 147)) 31 [.pointer (some ⟨gm, 0, none⟩)]).ext ((Ext.refl _).alloc (.cells #[.bool false] 4))
  have b2 := Blk.new ((w.alloc (.cells #[.pointer (some ⟨gp, 0, none⟩)] 147)).alloc (.cells #[.pointer (some ⟨gm, 0, none⟩)] 31)) 4 [.bool false]
  simp only [World.size_alloc] at b1 b2
  exact ⟨(((Ext.refl w).alloc _).alloc _).alloc _, b0, b1, b2, by simp⟩
theorem k1_of {m : Nat} (x : Fin m) (k m' : Nat) (hk : k ≤ 500) (hm : m ≤ 500) : 0 ≤ (k : Int) + (x.val : Int) ∧ (k : Int) + (x.val : Int) < 1000 := by
  have := x.isLt
  omega
section
variable {Q : Nat → Prop} {w0 w : World} {gm gp gl : Nat} {dv pv : Value} {s : MSt} {F : Nat → Int} {t ep asked : Int} {dn ld mv : Bool}
set_option maxRecDepth 100000 in
set_option maxHeartbeats 4000000 in
theorem advStep_done (h : IsMem Q w w0 w gm dv pv s) (hb : Blk w gp 250 (acells gl t true ld ep asked mv)) :
    Calls Tryz.prog 204 #[.pointer (some ⟨gp, 0, none⟩), .pointer (some ⟨gm, 0, none⟩)] w (StepPost Q w0 w gm gp 250 dv pv s true (acells gl t true ld ep asked mv)) := by
  obtain ⟨x0, f0, f1, f2, hsz⟩ := W3_facts w gp gm
  have B := Lib.hid (hb.ext x0)
  have HF : Hid (∀ W, Ext w W → IsMem Q W w0 W gm dv pv s ∧ Blk W gp 250 (acells gl t true ld ep asked mv) ∧ (∀ b, Q b → b ≠ gp → W.heap[b]? = w.heap[b]?)) := Lib.hid (fun W x => ⟨(h.ext x).here, hb.ext x, fun b hq _ => x.block b (h.lt.2 b hq)⟩)
  have X0 := Lib.hid x0
  have F2 := Lib.hid f2
  have y0 : (W3 w gp gm).cell? ⟨w.heap.size, 0, none⟩ = some (.pointer (some ⟨gp, 0, none⟩)) := f0.cell 0
  have y2 : (W3 w gp gm).cell? ⟨w.heap.size + 1 + 1, 0, none⟩ = some (.bool false) := f2.cell 0
  have z2 := f2.frozen 0
  unfold W3 at *
  clear h hb f0 f1 f2 x0 hsz
  go_enter Tryz.func204, Tryz.ntmps204
  go_upto_region 1 with fail
  generalize ((w.alloc (.cells #[.pointer (some ⟨gp, 0, none⟩)] 147)).alloc (.cells #[.pointer (some ⟨gm, 0, none⟩)] 31)).alloc (.cells #[.bool false] 4) = W0 at *
  go_wp2_with fail
  refine (doneAdvance_ok _ gp true (B.out.cell 2)).mono ?_
  rintro e w' ⟨rfl, rfl⟩
  go_wp2_with fail
  have hc : (W0.setCell ⟨w.heap.size + 1 + 1, 0, none⟩ (.bool true)).cell? ⟨w.heap.size + 1 + 1, 0, none⟩ = some (.bool true) := (F2.out.set 0 (.bool true)).cell 0
  refine bodyPost_ret (v := .bool true) (by simp [results, Tryz.results204, go_sem, hc]) rfl ?_
  exact ⟨rfl, HF.out _ (X0.out.setCell (p := ⟨w.heap.size + 1 + 1, 0, none⟩) (by show w.heap.size ≤ w.heap.size + 1 + 1; omega) _)⟩
set_option maxRecDepth 100000 in
set_option maxHeartbeats 4000000 in
theorem advStep_load (h : IsMem Q w w0 w gm dv pv s) (hc : Calm s) (hF : F 21 = -1) (hb : Blk w gp 250 (acells gl t false false ep asked mv)) (hl : Blk w gl 173 (cellsF F)) (qp : Q gp) (ql : Q gl) (p0 : w0.heap.size ≤ gp) :
    Calls Tryz.prog 204 #[.pointer (some ⟨gp, 0, none⟩), .pointer (some ⟨gm, 0, none⟩)] w (StepPost Q w0 w gm gp 250 dv pv (s.load t (-1)) false (acells gl t false true (peekV s (-1)) asked mv)) := by
  obtain ⟨x0, f0, f1, f2, hsz⟩ := W3_facts w gp gm
  have hgp := hb.lt
  have hw0 : w0.heap.size ≤ w.heap.size := h.lt.1.size
  have B := Lib.hid (hb.ext x0)
  have F2 := Lib.hid f2
  have M1 := h.hold (Q' := fun g => Q g ∨ g = w.heap.size ∨ g = w.heap.size + 1 ∨ g = w.heap.size + 1 + 1) x0 (fun g hg => by
    rcases hg with e | e | e | e
    · exact ⟨Nat.lt_of_lt_of_le (h.lt.2 g e) x0.size, Or.inl e⟩
    · exact ⟨by omega, Or.inr (by omega)⟩
    · exact ⟨by omega, Or.inr (by omega)⟩
    · exact ⟨by omega, Or.inr (by omega)⟩)
  have HE : Hid (∀ W, Ext (W3 w gp gm) W → Calls Tryz.prog 226 #[.pointer (some ⟨gp, 0, none⟩), .pointer (some ⟨gm, 0, none⟩)] W fun e w' => (∃ u, e = .returned u) ∧ IsMem (fun g => Q g ∨ g = w.heap.size ∨ g = w.heap.size + 1 ∨ g = w.heap.size + 1 + 1) w' w0 w' gm dv pv (s.load t (-1)) ∧ Blk w' gp 250 (acells gl t false true (peekV s (-1)) asked mv) ∧ (∀ b, (Q b ∨ b = w.heap.size ∨ b = w.heap.size + 1 ∨ b = w.heap.size + 1 + 1) → b ≠ gp → w'.heap[b]? = W.heap[b]?)) := Lib.hid (fun W x => eload_ok ((M1.ext x).here) hc ((hb.ext x0).ext x) ((hl.ext x0).ext x) hF (Or.inl qp) (Or.inl ql) p0)
  have Q2 := Lib.hid h.lt.2
  have HK : Hid (∀ W b, Ext (W3 w gp gm) W → Q b → W.heap[b]? = w.heap[b]?) := Lib.hid (fun W b x hq => (x0.trans x).block b (h.lt.2 b hq))
  have HY : Hid (∀ W, Ext (W3 w gp gm) W → W.cell? ⟨w.heap.size, 0, none⟩ = some (.pointer (some ⟨gp, 0, none⟩)) ∧ W.cell? ⟨w.heap.size + 1, 0, none⟩ = some (.pointer (some ⟨gm, 0, none⟩)) ∧ Blk W (w.heap.size + 1 + 1) 4 [.bool false] ∧ W.cell? ⟨gp, 3, none⟩ = some (.bool false)) := Lib.hid (fun W x => ⟨(f0.ext x).cell 0, (f1.ext x).cell 0, f2.ext x, ((hb.ext x0).ext x).cell 3⟩)
  have y0 : (W3 w gp gm).cell? ⟨w.heap.size, 0, none⟩ = some (.pointer (some ⟨gp, 0, none⟩)) := f0.cell 0
  have y1 : (W3 w gp gm).cell? ⟨w.heap.size + 1, 0, none⟩ = some (.pointer (some ⟨gm, 0, none⟩)) := f1.cell 0
  have y3 : (W3 w gp gm).cell? ⟨gp, 3, none⟩ = some (.bool false) := (hb.ext x0).cell 3
  unfold W3 at *
  generalize s.load t (-1) = s1 at *
  generalize peekV s (-1) = v at *
  clear h hb f0 f1 f2 x0 hsz M1 hl hc hF
  go_enter Tryz.func204, Tryz.ntmps204
  go_upto_region 1 with fail
  generalize ((w.alloc (.cells #[.pointer (some ⟨gp, 0, none⟩)] 147)).alloc (.cells #[.pointer (some ⟨gm, 0, none⟩)] 31)).alloc (.cells #[.bool false] 4) = W0 at *
  go_wp2_with fail
  refine (doneAdvance_ok _ gp false (B.out.cell 2)).mono ?_
  rintro e w' ⟨rfl, rfl⟩
  have xd : Ext W0 W0.drew := (Ext.refl W0).drew
  go_wp2_with fail
  go_region_held3 (fun W => W.cell? ⟨w.heap.size, 0, none⟩ = some (.pointer (some ⟨gp, 0, none⟩)) ∧ W.cell? ⟨w.heap.size + 1, 0, none⟩ = some (.pointer (some ⟨gm, 0, none⟩))) (first | exact hS1 | exact ⟨(HY.out _ xd).1, (HY.out _ xd).2.1⟩ | go_keep) (first
    | (go_at_call 226; refine (HE.out _ xd).mono ?_; rintro e w1 ⟨⟨u, rfl⟩, m1, b1, k1⟩; have hS1 := And.intro ((World.cell?_of_block (a := ⟨w.heap.size, 0, none⟩) (k1 w.heap.size (Or.inr (Or.inl rfl)) (by omega))).trans (HY.out _ xd).1) ((World.cell?_of_block (a := ⟨w.heap.size + 1, 0, none⟩) (k1 (w.heap.size + 1) (Or.inr (Or.inr (Or.inl rfl))) (by omega))).trans (HY.out _ xd).2.1); have M1 := Lib.hid m1; have B1 := Lib.hid b1; have K1 := Lib.hid k1; clear m1 b1 k1))
  all_goals
    clear hS1
    have R1 : Blk w1 (w.heap.size + 1 + 1) 4 [.bool false] := (K1.out _ (Or.inr (Or.inr (Or.inr rfl))) (by omega)).trans (HY.out _ xd).2.2.1
    have y2 : w1.cell? ⟨w.heap.size + 1 + 1, 0, none⟩ = some (.bool false) := R1.cell 0
    have z2 := R1.frozen 0
    have RR := Lib.hid R1
    clear R1
    go_wp2_with fail
    have hc2 : (w1.setCell ⟨w.heap.size + 1 + 1, 0, none⟩ (.bool false)).cell? ⟨w.heap.size + 1 + 1, 0, none⟩ = some (.bool false) := (RR.out.set 0 (.bool false)).cell 0
    refine bodyPost_ret (v := .bool false) (by simp [results, Tryz.results204, go_sem, hc2]) rfl ?_
    have f : Fr (fun b => b = w.heap.size + 1 + 1) w1 (w1.setCell ⟨w.heap.size + 1 + 1, 0, none⟩ (.bool false)) := Fr.setCell (S := fun b => b = w.heap.size + 1 + 1) (p := ⟨w.heap.size + 1 + 1, 0, none⟩) (Fr.refl _ w1) (Or.inl rfl) _
    have m2 := M1.out.turn f (fun b e => Or.inr (Or.inr (Or.inr e))) (fun b e => by rw [e]; omega)
    refine ⟨rfl, m2.less (fun g hg => Or.inl hg) (fun _ _ => rfl), B1.out.far (by show gp ≠ w.heap.size + 1 + 1; omega) _, fun b hq hne => ?_⟩
    have hbl : b < w1.heap.size := M1.out.lt.2 b (Or.inl hq)
    have hbw : (w1.setCell ⟨w.heap.size + 1 + 1, 0, none⟩ (.bool false)).heap[b]? = w1.heap[b]? := f.block b hbl (fun e => by
      subst e
      have := Q2.out _ hq
      omega)
    exact hbw.trans ((K1.out b (Or.inl hq) hne).trans (HK.out _ b xd hq))
set_option maxRecDepth 100000 in
set_option maxHeartbeats 4000000 in
theorem advStep_go (h : IsMem Q w w0 w gm dv pv s) (hc : Calm s) (ok : Okay F) (he : W64 ep) (k m : Nat) (hk : k ≤ 500) (hm : m ≤ 500) (hT : F 0 = (k : Int) + (m : Int)) (hF : F 21 = -1) (hb : Blk w gp 250 (acells gl t false true ep k mv)) (hl : Blk w gl 173 (cellsF F)) (qp : Q gp) (ql : Q gl) (nlp : gl ≠ gp) (p0 : w0.heap.size ≤ gp) (s' : MSt) (r : Bool) (cs : List Value)
    (hA : 0 < m → s' = s.load t (ann F k) ∧ r = holds ep (peekV s (ann F k)) ∧ cs = acells gl t (holds ep (peekV s (ann F k))) true ep ((k : Int) + 1) mv) (hZ : m = 0 → s' = s.swap t (-1) ep (next64 ep) ∧ r = true ∧ cs = acells gl t true true ep k (swapB s (-1) ep)) :
    Calls Tryz.prog 204 #[.pointer (some ⟨gp, 0, none⟩), .pointer (some ⟨gm, 0, none⟩)] w (StepPost Q w0 w gm gp 250 dv pv s' r cs) := by
  obtain ⟨x0, f0, f1, f2, hsz⟩ := W3_facts w gp gm
  have hgp := hb.lt
  have hgl := hl.lt
  have hw0 : w0.heap.size ≤ w.heap.size := h.lt.1.size
  have HD := Lib.hid (doneAdvance_ok (W3 w gp gm) gp false ((hb.ext x0).cell 2))
  have y0 : (W3 w gp gm).cell? ⟨w.heap.size, 0, none⟩ = some (.pointer (some ⟨gp, 0, none⟩)) := f0.cell 0
  have y3 : (W3 w gp gm).cell? ⟨gp, 3, none⟩ = some (.bool true) := (hb.ext x0).cell 3
  have F0 := Lib.hid f0
  have F1 := Lib.hid f1
  have F2 := Lib.hid f2
  have X0 := Lib.hid x0
  have HSZ := Lib.hid hsz
  have HH := Lib.hid h
  have HBb := Lib.hid hb
  have HLl := Lib.hid hl
  have HOk := Lib.hid ok
  have HCc := Lib.hid hc
  have HEe := Lib.hid he
  have HAa := Lib.hid hA
  have HZz := Lib.hid hZ
  have HTt := Lib.hid hT
  have HFf := Lib.hid hF
  unfold W3 at *
  clear h hb hl ok hc he hA hZ hT hF f0 f1 f2 x0 hsz
  refine (callsIn_wide (n := 6)).1 ?_
  refine callsIn_of_wp_marks Tryz.func204 rfl trivial ?_ rfl
  simp only [Tryz.ntmps204, List.size_toArray, List.length_cons, List.length_nil, Nat.reduceAdd, Nat.reduceSub, Array.replicate_succ, Array.replicate_zero, List.push_toArray, List.append_toArray, List.nil_append, List.cons_append]
  gi_wp2_with (first
    | (refine ⟨trivial, ?_⟩; gi_at_call 225; refine (callsIn_wide.2 HD.out).mono ?_; rintro e w' ⟨rfl, rfl⟩)
    | (refine ⟨trivial, ?_⟩; gi_at_call 227; refine (unasked_in _ gp _).mono ?_; rintro e w' ⟨rfl, rfl⟩))
  clear HD y0 y3
  have bU0 := Blk.new (((w.alloc (.cells #[.pointer (some ⟨gp, 0, none⟩)] 147)).alloc (.cells #[.pointer (some ⟨gm, 0, none⟩)] 31)).alloc (.cells #[.bool false] 4)) 147 [.pointer (some ⟨gp, 0, none⟩)]
  rw [HSZ.out] at bU0
  have x4 := (Ext.refl (((w.alloc (.cells #[.pointer (some ⟨gp, 0, none⟩)] 147)).alloc (.cells #[.pointer (some ⟨gm, 0, none⟩)] 31)).alloc (.cells #[.bool false] 4))).alloc (.cells #[.pointer (some ⟨gp, 0, none⟩)] 147)
  have bU := Lib.hid (show Blk _ (w.heap.size + 1 + 1 + 1) 147 [.pointer (some ⟨gp, 0, none⟩)] from bU0)
  have hsz4 : (((((w.alloc (.cells #[.pointer (some ⟨gp, 0, none⟩)] 147)).alloc (.cells #[.pointer (some ⟨gm, 0, none⟩)] 31)).alloc (.cells #[.bool false] 4)).alloc (.cells #[.pointer (some ⟨gp, 0, none⟩)] 147))).heap.size = w.heap.size + 4 := by simp
  replace F0 := Lib.hid (F0.out.ext x4)
  replace F1 := Lib.hid (F1.out.ext x4)
  replace F2 := Lib.hid (F2.out.ext x4)
  replace X0 := Lib.hid (X0.out.trans x4)
  clear x4 bU0 HSZ
  generalize (((w.alloc (.cells #[.pointer (some ⟨gp, 0, none⟩)] 147)).alloc (.cells #[.pointer (some ⟨gm, 0, none⟩)] 31)).alloc (.cells #[.bool false] 4)).alloc (.cells #[.pointer (some ⟨gp, 0, none⟩)] 147) = W4 at *
  obtain ⟨Q1, hQ1⟩ : ∃ Q1 : Nat → Prop, Q1 = fun g => Q g ∨ g = w.heap.size ∨ g = w.heap.size + 1 ∨ g = w.heap.size + 1 + 1 ∨ g = w.heap.size + 1 + 1 + 1 := ⟨_, rfl⟩
  have q1 : ∀ g, Q g → Q1 g := fun g hg => by rw [hQ1]; exact Or.inl hg
  have qa : Q1 w.heap.size := by rw [hQ1]; exact Or.inr (Or.inl rfl)
  have qb : Q1 (w.heap.size + 1) := by rw [hQ1]; exact Or.inr (Or.inr (Or.inl rfl))
  have qc : Q1 (w.heap.size + 1 + 1) := by rw [hQ1]; exact Or.inr (Or.inr (Or.inr (Or.inl rfl)))
  have qd : Q1 (w.heap.size + 1 + 1 + 1) := by rw [hQ1]; exact Or.inr (Or.inr (Or.inr (Or.inr rfl)))
  have M4 : Hid (IsMem Q1 W4 w0 W4 gm dv pv s) := Lib.hid (HH.out.hold X0.out (fun g hg => by
    rw [hQ1] at hg
    rcases hg with e | e | e | e | e
    · exact ⟨Nat.lt_of_lt_of_le (HH.out.lt.2 g e) X0.out.size, Or.inl e⟩
    · exact ⟨by omega, Or.inr (by omega)⟩
    · exact ⟨by omega, Or.inr (by omega)⟩
    · exact ⟨by omega, Or.inr (by omega)⟩
    · exact ⟨by omega, Or.inr (by omega)⟩))
  have bP := Lib.hid (HBb.out.ext X0.out)
  have bL := Lib.hid (HLl.out.ext X0.out)
  have hQlt : ∀ g, Q g → g < w.heap.size := HH.out.lt.2
  have hKQ : Hid (∀ b, Q b → W4.heap[b]? = w.heap[b]?) := Lib.hid (fun b hb => X0.out.block b (hQlt b hb))
  clear hQ1
  have MW : Hid (∀ W, Below W4.heap.size W4 W → IsMem (fun g => Q1 g ∨ (W4.heap.size ≤ g ∧ g < W.heap.size)) W w0 W gm dv pv s) := Lib.hid (fun W hB => M4.out.hold (Ext.of hB) (fun g hg => by
    rcases hg with e | e
    · exact ⟨Nat.lt_of_lt_of_le (M4.out.lt.2 g e) hB.size, Or.inl e⟩
    · exact ⟨e.2, Or.inr e.1⟩))
  have hSlt : ∀ g, (g = w.heap.size + 1 + 1 + 1 ∨ g = gp ∨ g = gl) → g < W4.heap.size := fun g hg => by rcases hg with rfl | rfl | rfl <;> omega
  have grow : Hid (∀ W w1 : World, W4.heap.size ≤ W.heap.size → (∀ g, (Q1 g ∨ (W4.heap.size ≤ g ∧ g < W.heap.size)) → g < w1.heap.size) → W.heap.size ≤ w1.heap.size) := Lib.hid (fun W w1 hs hk => by
    rcases Nat.lt_or_ge W4.heap.size W.heap.size with hlt | hge
    · have := hk (W.heap.size - 1) (Or.inr ⟨by omega, by omega⟩)
      omega
    · have := hk (w.heap.size + 1 + 1 + 1) (Or.inl qd)
      omega)
  refine wpIn_rangeFunc_ownG rfl (by decide) (gf := 241) (lb := #[.pointer (some ⟨w.heap.size + 1 + 1 + 1, 0, none⟩)]) rfl trivial (enters_of Tryz.func241 (by kernel_rfl) rfl)
    (unask_stops (6 - 1) (by decide) (w.heap.size + 1 + 1 + 1) gp gl k m (by omega) (by omega) W4 F (F 0) HTt.out rfl (acells gl t false true ep k mv) rfl rfl (fun g => g = w.heap.size + 1 + 1 + 1 ∨ g = gp ∨ g = gl) (Or.inl rfl) (Or.inr (Or.inl rfl)) (Or.inr (Or.inr rfl)) hSlt bU.out bP.out bL.out)
    (fun h k => KeepE.trans h k) (fun W l _ o' hl _ _ _ => KeepE.putObj (B := W4.heap.size) hSlt W l o' hl) (Below.refl _ _) (fun _ => rfl)
    (fun (pre : List (Fin m)) W => pre = [] ∧ Below W4.heap.size W4 W)
    (fun c (pre : List (Fin m)) W => ∃ x : Fin m, c = .ret ∧ pre = [x] ∧ IsMem Q1 W w0 W gm dv pv (s.load t (ann F ((k : Int) + (x.val : Int)))) ∧ Blk W gp 250 (acells gl t (holds ep (peekV s (ann F ((k : Int) + (x.val : Int))))) true ep ((k : Int) + (x.val : Int) + 1) mv) ∧ (∀ b, Q b → b ≠ gp → W.heap[b]? = w.heap[b]?) ∧ Blk W (w.heap.size + 1 + 1) 4 [.bool (holds ep (peekV s (ann F ((k : Int) + (x.val : Int)))))])
    (OwnFrom.and (ownFrom_pure _ (fun pre => pre = [])) (ownFrom_below (Nat.le_refl _) (Nat.le_refl _)))
    (fun c => by
      rintro pre A B row ⟨x, e1, e2, m1, b1, k1, r1⟩ hg hr
      have hne : ∀ b, b < W4.heap.size → some b ≠ row := fun b hb e => by
        have := (hr b e.symm).1
        omega
      exact ⟨x, e1, e2, m1.grown hg (fun r e => ⟨by have := (hr r e).1; omega, (hr r e).2⟩), (hg.block gp b1.lt (hne gp (by omega))).trans b1, fun b hq hn => (hg.block b (m1.lt.2 b (q1 b hq)) (hne b (by have := hQlt b hq; omega))).trans (k1 b hq hn), (hg.block _ r1.lt (hne _ (by omega))).trans r1⟩)
    ⟨rfl, Below.refl _ _⟩
    (fun x => { tmps := #[.pointer (some ⟨gp, 0, none⟩), .pointer (some ⟨gm, 0, none⟩), .pointer (some ⟨w.heap.size, 0, none⟩), .pointer (some ⟨w.heap.size + 1, 0, none⟩), .pointer (some ⟨w.heap.size + 1 + 1, 0, none⟩), .int .i64 ((k : Int) + (x.val : Int)), .pointer (some ⟨gp, 0, none⟩), .bool false, .pointer (some ⟨gp, 0, none⟩), .pointer (some ⟨gp, 0, none⟩), .pointer (some ⟨gp, 0, none⟩), .pointer (some ⟨gp, 3, none⟩), .bool true, .bool false, undef, undef, undef, undef, undef, .pointer (some ⟨gp, 0, none⟩), .func (.func 241) #[] #[.pointer (some ⟨w.heap.size + 1 + 1 + 1, 0, none⟩)], .int .i64 ((k : Int) + (x.val : Int)), undef, undef, undef, undef, undef, undef, undef, undef, undef, undef, undef, undef, undef], defers := [] }) ?assign ?body ?done ?stop
  case assign =>
    intro l x W K hK
    gi_wp2
    exact hK
  case body =>
    rintro l pre x W ⟨rfl, hB⟩ hlt
    have hxm := x.isLt
    have hk1 := k1_of x k m hk hm
    have mw := MW.out W hB
    have hAk := ask_ok mw HCc.out HOk.out HEe.out ((k : Int) + (x.val : Int)) hk1 ((hB.block gp (by omega)).trans bP.out) ((hB.block gl (by omega)).trans bL.out) (Or.inl (q1 gp qp)) (Or.inl (q1 gl ql)) p0
    have HAk := Lib.hid hAk
    have y0 : W.cell? ⟨w.heap.size, 0, none⟩ = some (.pointer (some ⟨gp, 0, none⟩)) := Blk.cell ((hB.block _ (by omega)).trans F0.out) 0
    have y1 : W.cell? ⟨w.heap.size + 1, 0, none⟩ = some (.pointer (some ⟨gm, 0, none⟩)) := Blk.cell ((hB.block _ (by omega)).trans F1.out) 0
    have F0W : Hid (Blk W w.heap.size 147 [.pointer (some ⟨gp, 0, none⟩)]) := Lib.hid ((hB.block _ (by omega)).trans F0.out)
    have F2W : Hid (Blk W (w.heap.size + 1 + 1) 4 [.bool false]) := Lib.hid ((hB.block _ (by omega)).trans F2.out)
    have HBw := Lib.hid hB
    clear hAk mw hB hk1
    obtain ⟨hv, ehv⟩ : ∃ hv, holds ep (peekV s (ann F ((k : Int) + (x.val : Int)))) = hv := ⟨_, rfl⟩
    obtain ⟨s1, es1⟩ : ∃ s1, s.load t (ann F ((k : Int) + (x.val : Int))) = s1 := ⟨_, rfl⟩
    rw [ehv, es1] at HAk
    have EHV := Lib.hid ehv
    have ES1 := Lib.hid es1
    clear ehv es1
    gi_wp2_with (refine ⟨trivial, ?_⟩; gi_at_call 228; refine (CallsIn.inRound l (callsIn_wide.2 HAk.out)).mono ?_; rintro e w1 ⟨⟨u, rfl⟩, m1, b1, k1⟩; have z0 : w1.cell? ⟨w.heap.size, 0, none⟩ = some (.pointer (some ⟨gp, 0, none⟩)) := Blk.cell ((k1 w.heap.size (Or.inl qa) (by omega)).trans F0W.out) 0; have z1 : w1.cell? ⟨gp, 2, none⟩ = some (.bool hv) := b1.cell 2; have R1 := Lib.hid (show Blk w1 (w.heap.size + 1 + 1) 4 [.bool false] from (k1 _ (Or.inl qc) (by omega)).trans F2W.out); have z2 : w1.cell? ⟨w.heap.size + 1 + 1, 0, none⟩ = some (.bool false) := R1.out.cell 0; have z3 := R1.out.frozen 0; have M1 := Lib.hid m1; have B1 := Lib.hid b1; have K1 := Lib.hid k1; clear m1 b1 k1)
    clear z0 z1 z2 z3 y0 y1
    have hwW : W4.heap.size ≤ W.heap.size := HBw.out.size
    have f : Fr (fun b => b = w.heap.size + 1 + 1) w1 (w1.setCell ⟨w.heap.size + 1 + 1, 0, none⟩ (.bool hv)) := Fr.setCell (S := fun b => b = w.heap.size + 1 + 1) (p := ⟨w.heap.size + 1 + 1, 0, none⟩) (Fr.refl _ w1) (Or.inl rfl) _
    have m2 := M1.out.turn f (fun b e => Or.inl (by rw [e]; exact qc)) (fun b e => by rw [e]; omega)
    refine ⟨KeepsFrom.trans ⟨grow.out W w1 hwW M1.out.lt.2, fun j o hj ho _ => (K1.out j (Or.inr ⟨hj, (Array.getElem?_eq_some_iff.1 ho).1⟩) (by omega)).trans ho⟩ ((KeepsOthers.setCell w1 _ _).from _), x, rfl, rfl, ?_, ?_, fun b hq hne => ?_, ?_⟩
    · rw [ES1.out]
      exact m2.less (fun g hg => Or.inl hg) (fun _ _ => rfl)
    · rw [EHV.out]
      exact B1.out.far (by show gp ≠ w.heap.size + 1 + 1; omega) _
    · have hb1 := hQlt b hq
      refine (f.block b (M1.out.lt.2 b (Or.inl (q1 b hq))) (by omega)).trans ((K1.out b (Or.inl (q1 b hq)) hne).trans ((HBw.out.block b (by omega)).trans (hKQ.out b hq)))
    · rw [EHV.out]
      exact R1.out.set 0 _
  case done =>
    rintro D xs W hD rfl ⟨hnil, hB⟩ hK
    obtain rfl : m = 0 := by
      have := congrArg List.length hnil
      simpa using this
    obtain ⟨e1, e2, e3⟩ := HZz.out rfl
    subst e1 e2 e3
    have hDW : D < W.heap.size := (Array.getElem?_eq_some_iff.1 hK).1
    have mw := MW.out W hB
    have HMo := Lib.hid (move_ok mw HCc.out HEe.out HFf.out ((hB.block gp (by omega)).trans bP.out) ((hB.block gl (by omega)).trans bL.out) (Or.inl (q1 gp qp)) (Or.inl (q1 gl ql)) p0)
    have y0 : W.cell? ⟨w.heap.size, 0, none⟩ = some (.pointer (some ⟨gp, 0, none⟩)) := Blk.cell ((hB.block _ (by omega)).trans F0.out) 0
    have y1 : W.cell? ⟨w.heap.size + 1, 0, none⟩ = some (.pointer (some ⟨gm, 0, none⟩)) := Blk.cell ((hB.block _ (by omega)).trans F1.out) 0
    have F2W : Hid (Blk W (w.heap.size + 1 + 1) 4 [.bool false]) := Lib.hid ((hB.block _ (by omega)).trans F2.out)
    have HBw := Lib.hid hB
    have HKd := Lib.hid hK
    clear mw hB hK
    generalize s.swap t (-1) ep (next64 ep) = s1 at *
    generalize swapB s (-1) ep = sb at *
    gi_wp2_with (refine ⟨trivial, ?_⟩; gi_at_call 229; refine (callsIn_wide.2 HMo.out).mono ?_; rintro e w1 ⟨⟨u, rfl⟩, m1, b1, k1⟩; have R1 := Lib.hid (show Blk w1 (w.heap.size + 1 + 1) 4 [.bool false] from (k1 _ (Or.inl qc) (by omega)).trans F2W.out); have z2 : w1.cell? ⟨w.heap.size + 1 + 1, 0, none⟩ = some (.bool false) := R1.out.cell 0; have z3 := R1.out.frozen 0; have M1 := Lib.hid m1; have B1 := Lib.hid b1; have K1 := Lib.hid k1; clear m1 b1 k1)
    clear z2 z3 y0 y1
    have hK1 : w1.heap[D]? = some (.deferred (some [])) := (K1.out D (Or.inr ⟨hD, hDW⟩) (by omega)).trans HKd.out
    have hK2 : (w1.setCell ⟨w.heap.size + 1 + 1, 0, none⟩ (.bool true)).heap[D]? = some (.deferred (some [])) := (KeepsOthers.setCell w1 ⟨w.heap.size + 1 + 1, 0, none⟩ (.bool true)).same D _ hK1 rfl
    have f : Fr (fun b => b = w.heap.size + 1 + 1) w1 (w1.setCell ⟨w.heap.size + 1 + 1, 0, none⟩ (.bool true)) := Fr.setCell (S := fun b => b = w.heap.size + 1 + 1) (p := ⟨w.heap.size + 1 + 1, 0, none⟩) (Fr.refl _ w1) (Or.inl rfl) _
    have m2 := M1.out.turn f (fun b e => Or.inl (by rw [e]; exact qc)) (fun b e => by rw [e]; omega)
    have hc2 : ((w1.setCell ⟨w.heap.size + 1 + 1, 0, none⟩ (.bool true)).putObj D (.deferred none)).cell? ⟨w.heap.size + 1 + 1, 0, none⟩ = some (.bool true) := (Blk.putObj (R1.out.set 0 (.bool true)) (by omega) _).cell 0
    refine ⟨by simp, .inl ⟨_, _, rfl, run_takeDeferred hK2, ?_⟩⟩
    refine ⟨.bool true, by simp [results, Tryz.results204, go_sem, hc2], rfl, m2.defer (Or.inr ⟨hD, hDW⟩) (by omega) (fun g hg => Or.inl (q1 g hg)) _, (B1.out.far (by show gp ≠ w.heap.size + 1 + 1; omega) _).putObj (by omega) _, fun b hq hne => ?_⟩
    have hb1 := hQlt b hq
    exact (World.putObj_heap_other (by omega)).trans ((f.block b (M1.out.lt.2 b (Or.inl (q1 b hq))) (by omega)).trans ((K1.out b (Or.inl (q1 b hq)) hne).trans ((HBw.out.block b (by omega)).trans (hKQ.out b hq))))
  case stop =>
    rintro D c pre W hD ⟨j, hj⟩ ⟨x, rfl, rfl, m1, b1, k1, r1⟩ hK
    have hxm := x.isLt
    have hx0 : x.val = 0 := by
      have h1 : ([x] : List (Fin m))[0]? = ((List.finRange m).take j)[0]? := by rw [hj]
      rw [List.getElem?_take] at h1
      split at h1
      · have h2 : (List.finRange m)[0]? = some ⟨0, by omega⟩ := by
          rw [List.getElem?_eq_getElem (by simp; omega)]
          simp
        rw [h2] at h1
        simp at h1
        rw [h1]
      · simp at h1
    obtain ⟨e1, e2, e3⟩ := HAa.out (by omega)
    rw [hx0, show (k : Int) + ((0 : Nat) : Int) = k by omega] at m1 b1 r1
    rw [← e1] at m1
    rw [← e3] at b1
    rw [← e2] at r1
    have M1 := Lib.hid m1
    have B1 := Lib.hid b1
    have K1 := Lib.hid k1
    have R1 := Lib.hid r1
    have HKd := Lib.hid hK
    clear m1 b1 k1 r1 hK e1 e2 e3
    gi_wp2
    have hDW : D < W.heap.size := (Array.getElem?_eq_some_iff.1 HKd.out).1
    have hc2 : (W.putObj D (.deferred none)).cell? ⟨w.heap.size + 1 + 1, 0, none⟩ = some (.bool r) := (R1.out.putObj (by omega) _).cell 0
    refine ⟨by simp, .inl ⟨_, _, rfl, run_takeDeferred HKd.out, ?_⟩⟩
    have mg := M1.out.grown (grownBy_putObj' W D (.deferred none)) (fun r e => by cases e; exact ⟨by omega, _, HKd.out, rfl⟩)
    refine ⟨.bool r, by simp [results, Tryz.results204, go_sem, hc2], rfl, mg.less q1 (fun _ _ => rfl), B1.out.putObj (by omega) _, fun b hq hne => ?_⟩
    have hb1 := hQlt b hq
    exact (World.putObj_heap_other (by omega)).trans (K1.out b hq hne)
/-- **A STEP OF AN ADVANCE.** -/
theorem advStep_ok {x : AMs} {T : Nat} (h : IsMem Q w w0 w gm dv pv s) (hc : Calm s) (ok : Okay F) (hx : x.Wf T) (hT1 : T ≤ 500) (hF : F 21 = -1) (hF0 : F 0 = (T : Int)) (hb : Blk w gp 250 (x.cells gl t)) (hl : Blk w gl 173 (cellsF F)) (qp : Q gp) (ql : Q gl) (nlp : gl ≠ gp) (p0 : w0.heap.size ≤ gp) :
    Calls Tryz.prog 204 #[.pointer (some ⟨gp, 0, none⟩), .pointer (some ⟨gm, 0, none⟩)] w (StepPost Q w0 w gm gp 250 dv pv (advS F T t x s).2 (advS F T t x s).1.dn ((advS F T t x s).1.cells gl t)) := by
  obtain ⟨dn, ld, ep, asked, mv⟩ := x
  obtain ⟨he, ha⟩ := hx
  simp only at he ha
  cases dn
  · cases ld
    · exact advStep_load h hc hF hb hl qp ql p0
    · refine advStep_go h hc ok he asked (T - asked) (by omega) (by omega) (by omega) hF hb hl qp ql nlp p0 _ _ _ (fun hm => ?_) (fun hm => ?_)
      · have e : advS F T t ⟨false, true, ep, asked, mv⟩ s = (⟨holds ep (peekV s (ann F asked)), true, ep, asked + 1, mv⟩, s.load t (ann F asked)) := by
          unfold advS
          rw [if_neg (by simp), if_neg (by simp), if_pos (by show asked < T; omega)]
        rw [e]
        exact ⟨rfl, rfl, rfl⟩
      · have e : advS F T t ⟨false, true, ep, asked, mv⟩ s = (⟨true, true, ep, asked, swapB s (-1) ep⟩, s.swap t (-1) ep (next64 ep)) := by
          unfold advS
          rw [if_neg (by simp), if_neg (by simp), if_neg (by show ¬ asked < T; omega)]
        rw [e]
        exact ⟨rfl, rfl, rfl⟩
  · exact advStep_done h hb
end
end Go.Proofs.YtbicloceaddinaaGreat


/- Package epoch: the machines' steps as one, and the page's example of layer 10. Conditions: those that each theorem names. -/
namespace Go.Proofs.YtbicloceaddinaaGreat
open Go.ChangeShapes Go.WideShapes Go.ChangeAt Go.RowKit
set_option linter.unusedVariables false
abbrev EMs := Bool × Bool × Int
end Go.Proofs.YtbicloceaddinaaGreat

