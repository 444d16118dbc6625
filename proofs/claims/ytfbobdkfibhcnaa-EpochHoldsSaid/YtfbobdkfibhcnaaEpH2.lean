/- Several threads of EpochHolds: rows, what each has, how it begins. Conditions: those that each theorem names. -/
import Derived.Test.YtfbobdkfibhcnaaMach
import Derived.Test.YtfbobdkfibhcnaaMany2
namespace Go.Proofs.Ytfbobdkfibhcnaa
open Go.ChangeShapes Go.WideShapes Go.ChangeAt Go.RowKit
set_option linter.unusedVariables false
theorem Mc.S_ptrs (m : Mc) (F : Nat → Int) (T : Nat) (t : Int) (s : MSt) : (m.S F T t s).1.pE = m.pE ∧ (m.S F T t s).1.pL = m.pL ∧ (m.S F T t s).1.pA = m.pA := by
  cases m <;> exact ⟨rfl, rfl, rfl⟩
theorem Mc.S_calm {m : Mc} {F : Nat → Int} {T : Nat} {t n : Int} {s : MSt} (hU : W64 (peekV s (-1))) (hx : ∀ g x, m = .adv g x → x.Wf T) (hc : CalmN n s) : CalmN (n + 1) (m.S F T t s).2 := by
  cases m with
  | non => exact hc.mono (by omega)
  | ent g x =>
    show CalmN (n + 1) (enterS F t x s).2
    unfold enterS
    split
    · exact hc.mono (by omega)
    split
    · exact hc.load _ _
    · exact hc.store _ _ _
  | lea g d =>
    show CalmN (n + 1) (if d = true then s else s.store t (ann F t) 0)
    split
    · exact hc.mono (by omega)
    · exact hc.store _ _ _
  | adv g x => exact (advS_wf hU (hx g x rfl) hc).2
theorem Mc.own_of {m : Mc} (h : m.dn = false) (gl : Nat) (t : Int) : ∃ p, m.own gl t = some p := by
  cases m with
  | non => cases h
  | ent g x => exact ⟨_, rfl⟩
  | lea g d => exact ⟨_, rfl⟩
  | adv g x => exact ⟨_, rfl⟩
theorem Mc.at_of {m : Mc} {w : World} {gl : Nat} {t : Int} (h : ∀ p, m.own gl t = some p → Blk w p.1 p.2.1 p.2.2) : m.At w := by
  cases m with
  | non => trivial
  | ent g x => exact (h _ rfl).cell 2
  | lea g d => exact (h _ rfl).cell 2
  | adv g x => exact (h _ rfl).cell 2
theorem rowsE_len (hs : List EH) : ∀ r ∈ hs.map EH.cells, r.length = 5 := fun r hr => by
  obtain ⟨h, _, e⟩ := List.mem_map.1 hr
  rw [← e]
  rfl
def ownE (gl : Nat) (i : Nat) (h : EH) : Owned := h.m.own gl i
theorem setE {hs : List EH} {gl tt : Nat} {h' : EH} {r : List Value} {o : Owned} (hlt : tt < hs.length) (hr : r = h'.cells) (ho : o = h'.m.own gl tt) : (hs.map EH.cells).set tt r = (hs.set tt h').map EH.cells ∧ (hs.mapIdx (ownE gl)).set tt o = (hs.set tt h').mapIdx (ownE gl) := by
  refine ⟨by rw [List.map_set, hr], ?_⟩
  rw [mapIdx_set9 _ _ _ _ hlt, ho]
  rfl
theorem rowsE_at {hs : List EH} {i f : Nat} {h : EH} (e : hs[i]? = some h) (hf : f < 5) : (hs.map EH.cells).flatten[i * 5 + f]? = h.cells[f]? := by
  rw [flat_get _ _ _ (rowsE_len hs) hf, List.getElem?_map, e]
  rfl
theorem inS_inB {F : Nat → Int} {T i : Nat} {s : MSt} (h : i < T) : (inS F T s i).2 = inB F s i := by
  unfold inS inB
  rw [if_pos ⟨by omega, by omega⟩]
  by_cases e : peekV s (ann F i) = 0
  · rw [if_pos e]
    simp [e]
  · rw [if_neg e]
    simp [e]
def h5 : EH := ⟨.non, false, 0⟩
def z5 : List Value := [.pointer none, .pointer none, .pointer none, .bool false, .int .u64 0]
theorem hold_info : (Try.prog.info? 70).map (fun i => (i.zero, i.size, i.bytes)) = some (some (.agg #[.pointer none, .pointer none, .pointer none, .bool false, .int .u64 0]), 5, 40) := by kernel_rfl
theorem make_holds (n : Nat) (hc : n ≤ 1000000000) (W : World) :
    (Instr.makeSlice 63 (.int .i64 (n : Int)) (.int .i64 (n : Int))).run Try.prog W = .ok (.slice (some ⟨W.heap.size, 0, none⟩) n n) (W.alloc (.cells (madeCells #[.pointer none, .pointer none, .pointer none, .bool false, .int .u64 0] (n * 5)) 70)) := by
  obtain ⟨i, hi, hz1, hz2, hz3⟩ := info_parts hold_info
  have h := run_makeInts (k := .u8) Try.underlying63 hi hz1 hz2 n n (Nat.le_refl _) (by rw [hz3]; omega) (by unfold maxLen; omega) W
  exact h
theorem made_holds (n : Nat) : madeCells #[.pointer none, .pointer none, .pointer none, .bool false, .int .u64 0] (n * 5) = (((List.replicate n h5).map EH.cells).flatten).toArray := by
  have hlen := rowsE_len (List.replicate n h5)
  have hl : (((List.replicate n h5).map EH.cells).flatten).length = n * 5 := by
    rw [List.map_replicate, List.length_flatten, List.map_replicate, List.sum_replicate_nat]
    rfl
  apply Array.ext
  · simp [madeCells]
    rfl
  · intro i h1 h2
    have hi : i < n * 5 := by simpa [madeCells] using h1
    have hd : i / 5 * 5 + i % 5 = i := by omega
    have hr : i % 5 < 5 := Nat.mod_lt _ (by decide)
    have hq : i / 5 < n := by omega
    have key := rowsE_at (hs := List.replicate n h5) (i := i / 5) (f := i % 5) (h := h5) (by rw [List.getElem?_replicate, if_pos hq]) hr
    rw [hd] at key
    have e2 : (((List.replicate n h5).map EH.cells).flatten)[i]? = some ((((List.replicate n h5).map EH.cells).flatten)[i]'(by rw [hl]; exact hi)) := List.getElem?_eq_getElem _
    rw [e2] at key
    have key2 : some ((((List.replicate n h5).map EH.cells).flatten)[i]'(by rw [hl]; exact hi)) = z5[i % 5]? := key
    have e3 : (madeCells #[.pointer none, .pointer none, .pointer none, .bool false, .int .u64 0] (n * 5))[i] = #[Value.pointer none, .pointer none, .pointer none, .bool false, .int .u64 0][i % 5]! := by simp [madeCells]
    rw [e3, List.getElem_toArray]
    have hc : i % 5 = 0 ∨ i % 5 = 1 ∨ i % 5 = 2 ∨ i % 5 = 3 ∨ i % 5 = 4 := by omega
    rcases hc with e | e | e | e | e <;> rw [e] at key2 ⊢ <;> exact (Option.some.inj key2).symm
theorem EI.start (t s l b : Nat) : EI t s l b 0 (List.replicate t h5) (groundSt t s l b []) := by
  have at5 : ∀ (i : Nat) (h : EH), (List.replicate t h5)[i]? = some h → h = h5 := fun i h e => by
    rw [List.getElem?_replicate] at e
    split at e
    · injection e with e
      exact e.symm
    · cases e
  have e0 : groundSt t s l b [] = startSt t s l b := rfl
  rw [e0]
  refine ⟨MOk.start t s l b, by simp, by rw [start_peek]; exact ⟨Int.le_refl _, Int.le_refl _⟩, fun i h e => ?_, fun i h g x e em => ?_, fun i h g x e em => ?_⟩
  · rw [at5 i h e]
    exact ⟨⟨fun _ => start_peek _ _ _ _ _, fun e => by cases e⟩, ⟨Int.le_refl 0, by show (0 : Int) < _; decide⟩⟩
  · rw [at5 i h e] at em
    cases em
  · rw [at5 i h e] at em
    cases em
theorem ownE_none (gl t : Nat) (i : Nat) (p : Nat × TypeId × List Value) : ((List.replicate t h5).mapIdx (ownE gl))[i]? ≠ some (some p) := by
  rw [List.getElem?_mapIdx, List.getElem?_replicate]
  split
  · intro e
    injection e with e
    cases e
  · intro e
    cases e
end Go.Proofs.Ytfbobdkfibhcnaa
