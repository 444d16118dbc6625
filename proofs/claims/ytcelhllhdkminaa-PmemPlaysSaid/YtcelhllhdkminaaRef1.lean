/- The document's device: its words are laid. Conditions: those that each theorem names. -/
import Derived.Test.YtcelhllhdkminaaDevActs
import Derived.Deep.AppendLies
import Derived.Deep.RegionHeld3
import Derived.Deep.RegionLaw
import Derived.Deep.DeepCutAuto
namespace Go.Proofs.Ytcelhllhdkminaa
open Go.ChangeShapes Go.WideShapes Go.ChangeAt Go.RowKit
set_option linter.unusedVariables false
/-- append(s, z), of a row of the call's own, inside a region whose order is open: of the old blocks just the row's own may turn. -/
theorem step_pushOff {P : Program} {ops : Array Oper} {o : Oper} {a : Act} {K : Act → World → Prop} {Q : Exit → Act → World → Prop} {E : Prop} (hgd : o.guard = none) (s x : Operand) (t : TypeId)
    (ho : o.op = .call { callee := .builtin .append, args := #[s, x], argTypes := #[t, t] })
    (e : TypeId) (k : IntKind) (bytes : Nat) (hinfo : (P.info? e).map (fun i => (i.zero, i.size, i.bytes)) = some (some (.int k 0), 1, bytes)) (hby : bytes ≤ 8) (ht : P.underlying t = some (.slice e))
    (w0 W : World) (v : Value) (zs : List Int) (z : Int) (hs : a.eval s = v) (hrow : Row W w0.heap.size e k v zs) (ext : Ext w0 W)
    (hx : a.eval x = .slice (some ⟨W.heap.size, 0, none⟩) 1 1) (hlen : zs.length < 1000000000)
    (h : ∀ g cap w', Row w' w0.heap.size e k (.slice (some ⟨g, 0, none⟩) (zs.length + 1) cap) (zs ++ [z]) → Ext w0 w' → Fr (fun b => v.ownBlock = some b) W w' → (v.ownBlock = some g ∨ W.heap.size ≤ g) → K (a.put o.dst (.slice (some ⟨g, 0, none⟩) (zs.length + 1) cap)) w') :
    if Region.wanted o (yielded ops a.tmps) = true then Oper.wp P o a (W.alloc (.cells #[.int k z] e)).drew K Q else E := by
  obtain ⟨i, hi, hz0, hz1, hz2⟩ := info_parts hinfo
  refine step_append_lies _ hgd s x t ho w0.heap.size e i (.int k 0) 1 bytes ht hi hz0 hz1 hz2 rfl (by decide) v zs.length (zs.map (Value.int k)) hs ((hrow.alloc _).drew) ⟨W.heap.size, 0, none⟩ 1 1 [.int k z] hx rfl ?_ ?_ (by omega) ?_ ?_ ?_ _ rfl ?_
  · intro j u hj
    match j, hj with
    | 0, hj =>
      simp at hj
      subst hj
      rw [at0]
      show (W.alloc (.cells #[.int k z] e)).cell? ⟨W.heap.size, 0, none⟩ = _
      rw [World.cell?_alloc_at _ _ _ _ rfl]; rfl
  · intro u hu; simp at hu; subst hu; rfl
  · unfold maxLen; omega
  · have : (zs.length + 1) * bytes ≤ 1000000000 * 8 := Nat.mul_le_mul (by omega) hby
    omega
  · have := ext.size; simp; omega
  · intro g cap w' hown hg hat _
    have hlt := hrow.lt
    refine h g cap w' ?_ ?_ ?_ ?_
    · unfold Row
      rw [List.map_append, List.length_append]
      exact hown
    · exact Ext.of (((Below.alloc ext.below ext.size _).drew).grown hg (by have := ext.size; simp; omega) (fun q hq => (hlt q hq).1))
    · have hsz := hg.size
      simp at hsz
      refine ⟨hg.os, hg.tape, hg.output, by omega, fun b hb hne => (hg.block b (by simp; omega) (fun e => hne e.symm)).trans (Below.heap_alloc _ _ _ hb)⟩
    · rcases hat with h | h
      · exact Or.inl h
      · right
        rw [h]
        simp
/-- A row of values of one cell each. -/
def RowE (w : World) (B : Nat) (e : TypeId) (v : Value) (us : List Value) : Prop := w.ownsRow B e 1 v us.length us
theorem RowE.nil (w : World) (B : Nat) (e : TypeId) : RowE w B e (.slice none 0 0) [] := World.ownsRow_nil w B e 1
theorem RowE.kept {w w' : World} {B : Nat} {e : TypeId} {v : Value} {us : List Value} (h : RowE w B e v us) (hk : ∀ g, v.ownBlock = some g → w'.heap[g]? = w.heap[g]?) : RowE w' B e v us := by
  refine ⟨h.1, ?_⟩
  rcases h.2 with h2 | ⟨g, cap, cur, hv, hg, hh, r⟩
  · exact Or.inl h2
  · refine Or.inr ⟨g, cap, cur, hv, hg, ?_, r⟩
    rw [hk g (by rw [hv]; rfl)]; exact hh
theorem RowE.lt {w : World} {B : Nat} {e : TypeId} {v : Value} {us : List Value} (h : RowE w B e v us) : ∀ g, v.ownBlock = some g → B ≤ g ∧ g < w.heap.size := fun g hg => World.ownsRow.lt h g hg
theorem RowE.fr {w w' : World} {B : Nat} {e : TypeId} {v : Value} {us : List Value} {S : Nat → Prop} (h : RowE w B e v us) (x : Fr S w w') (hS : ∀ g, v.ownBlock = some g → ¬ S g) : RowE w' B e v us :=
  h.kept fun g hg => x.block g (h.lt g hg).2 (hS g hg)
theorem row_info : (Try.prog.info? 125).map (fun i => (i.zero, i.size, i.bytes)) = some (some (.slice none 0 0), 1, 24) := by kernel_rfl
theorem flag_info : (Try.prog.info? 4).map (fun i => (i.zero, i.size, i.bytes)) = some (some (.bool false), 1, 1) := by kernel_rfl
theorem info_one {P : Program} {e : TypeId} {z : Value} {bytes : Nat} (h : (P.info? e).map (fun i => (i.zero, i.size, i.bytes)) = some (some z, 1, bytes)) : ∃ i, P.info? e = some i ∧ i.zero = some z ∧ i.size = 1 ∧ i.bytes = bytes := by
  cases hi : P.info? e with
  | none => rw [hi] at h; cases h
  | some i =>
    rw [hi] at h
    simp at h
    exact ⟨i, rfl, h.1, h.2.1, h.2.2⟩
theorem make_flags (n : Nat) (hc : n ≤ 1000000000) (W : World) :
    (Instr.makeSlice 125 (.int .i64 (n : Int)) (.int .i64 (n : Int))).run Try.prog W = .ok (.slice (some ⟨W.heap.size, 0, none⟩) n n) (W.alloc (.cells (madeCells #[.bool false] n) 4)) := by
  obtain ⟨i, hi, hz0, hz1, hz2⟩ := info_one flag_info
  have h := run_makeInts (k := .u8) Try.underlying125 hi hz0 hz1 n n (Nat.le_refl _) (by rw [hz2]; omega) (by unfold maxLen; omega) W
  rw [Nat.mul_one] at h
  exact h
theorem made_flags (n : Nat) : madeCells #[.bool false] n = (List.replicate n (.bool false)).toArray := by
  apply Array.ext
  · simp [madeCells]
  · intro i h1 h2
    simp [madeCells, Nat.mod_one]
theorem step_pushE {P : Program} {ops : Array Oper} {o : Oper} {a : Act} {K : Act → World → Prop} {Q : Exit → Act → World → Prop} {E : Prop} (hgd : o.guard = none) (s x : Operand) (t : TypeId)
    (ho : o.op = .call { callee := .builtin .append, args := #[s, x], argTypes := #[t, t] })
    (e : TypeId) (z0 : Value) (bytes : Nat) (hinfo : (P.info? e).map (fun i => (i.zero, i.size, i.bytes)) = some (some z0, 1, bytes)) (hz0 : z0.cells.size = 1) (hby : bytes ≤ 64) (ht : P.underlying t = some (.slice e))
    (w0 W : World) (v : Value) (us : List Value) (u : Value) (hu : u.oneCell' = true) (hs : a.eval s = v) (hrow : RowE W w0.heap.size e v us) (ext : Ext w0 W)
    (hx : a.eval x = .slice (some ⟨W.heap.size, 0, none⟩) 1 1) (hlen : us.length < 1000000)
    (h : ∀ g cap w', RowE w' w0.heap.size e (.slice (some ⟨g, 0, none⟩) (us.length + 1) cap) (us ++ [u]) → Ext w0 w' → Fr (fun b => v.ownBlock = some b) W w' → (v.ownBlock = some g ∨ W.heap.size ≤ g) → K (a.put o.dst (.slice (some ⟨g, 0, none⟩) (us.length + 1) cap)) w') :
    if Region.wanted o (yielded ops a.tmps) = true then Oper.wp P o a (W.alloc (.cells #[u] e)).drew K Q else E := by
  obtain ⟨i, hi, hz1, hz2, hz3⟩ := info_one hinfo
  refine step_append_lies _ hgd s x t ho w0.heap.size e i z0 1 bytes ht hi hz1 hz2 hz3 hz0 (by decide) v us.length us hs ((World.ownsRow.alloc hrow _).drew) ⟨W.heap.size, 0, none⟩ 1 1 [u] hx rfl ?_ ?_ (by omega) ?_ ?_ ?_ _ rfl ?_
  · intro j u' hj
    match j, hj with
    | 0, hj =>
      simp at hj
      subst hj
      rw [at0]
      show (W.alloc (.cells #[u] e)).cell? ⟨W.heap.size, 0, none⟩ = _
      rw [World.cell?_alloc_at _ _ _ _ rfl]; rfl
  · intro u' hu'; simp at hu'; subst hu'; exact hu
  · unfold maxLen; omega
  · have : (us.length + 1) * bytes ≤ 1000000 * 64 := Nat.mul_le_mul (by omega) hby
    omega
  · have := ext.size; simp; omega
  · intro g cap w' hown hg hat _
    have hlt := hrow.lt
    refine h g cap w' ?_ ?_ ?_ ?_
    · unfold RowE
      rw [List.length_append]
      exact hown
    · exact Ext.of (((Below.alloc ext.below ext.size _).drew).grown hg (by have := ext.size; simp; omega) (fun q hq => (hlt q hq).1))
    · have hsz := hg.size
      simp at hsz
      refine ⟨hg.os, hg.tape, hg.output, by omega, fun b hb hne => (hg.block b (by simp; omega) (fun e => hne e.symm)).trans (Below.heap_alloc _ _ _ hb)⟩
    · rcases hat with h | h
      · exact Or.inl h
      · right
        rw [h]
        simp
/-- The document's device while its words are laid. -/
structure Lays (w0 w : World) (g : Nat) (vk vs : Value) (k1 k2 : List Int) : Prop where
  dev : Blk w g 43 [vk, vs, .slice none 0 0, .slice none 0 0]
  kept : Row w w0.heap.size 31 .u64 vk k1
  seen : Row w w0.heap.size 31 .u64 vs k2
  ext : Ext w0 w
  gk : vk.ownBlock ≠ some g
  gs : vs.ownBlock ≠ some g
  ks : ∀ b, vk.ownBlock = some b → vs.ownBlock ≠ some b
  g0 : w0.heap.size ≤ g
end Go.Proofs.Ytcelhllhdkminaa
