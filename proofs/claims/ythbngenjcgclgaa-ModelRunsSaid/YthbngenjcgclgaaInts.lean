/- A slice of integers that the call made itself: what it reads as, that one more may be laid behind it, and that a cell may be written. Conditions: those that each theorem names. -/
import Derived.Test.YthbngenjcgclgaaBase
import Derived.Maps.AppendAt
import Derived.Deep.AppendLies
namespace Go.Proofs.Ythbngenjcgclgaa
open Go.ChangeShapes Go.WideShapes Go.ChangeAt Go.RowKit
set_option linter.unusedVariables false

/-- A slice's cells, from its address on, hold these integers; a slice of none may lie nowhere. -/
def Ints (w : World) (k : IntKind) (A : Option Addr) (zs : List Int) : Prop :=
  0 < zs.length → ∃ ad, A = some ad ∧ ad.block < w.heap.size ∧ ∀ j, j < zs.length → w.cell? (ad.add j) = some (.int k (zs.getD j 0))
theorem add_block (a : Addr) (n : Nat) : (a.add n).block = a.block := by unfold Addr.add; split <;> rfl
theorem Ints.ext {w w' : World} {k : IntKind} {A : Option Addr} {zs : List Int} (h : Ints w k A zs) (x : Ext w w') : Ints w' k A zs := fun hn => by
  obtain ⟨ad, e, hb, hc⟩ := h hn
  exact ⟨ad, e, Nat.lt_of_lt_of_le hb x.size, fun j hj => (Below.cell x.below (by rw [add_block]; exact hb)).trans (hc j hj)⟩
theorem Ints.none (w : World) (k : IntKind) (A : Option Addr) : Ints w k A [] := fun h => absurd h (by simp)
/-- All of a list are numbers below m, not below 0. -/
def Lim (zs : List Int) (m : Int) : Prop := ∀ j, j < zs.length → 0 ≤ zs.getD j 0 ∧ zs.getD j 0 < m
theorem none_lim (m : Int) : Lim [] m := fun j hj => absurd hj (by simp)

/-- A row of the call's own, from block B on. -/
def Row (w : World) (B : Nat) (e : TypeId) (k : IntKind) (v : Value) (zs : List Int) : Prop := w.ownsRow B e 1 v zs.length (zs.map (Value.int k))
theorem Row.nil (w : World) (B : Nat) (e : TypeId) (k : IntKind) : Row w B e k (.slice none 0 0) [] := World.ownsRow_nil w B e 1
theorem at0 (g j : Nat) : (⟨g, 0, none⟩ : Addr).add j = ⟨g, j, none⟩ := by unfold Addr.add; split <;> simp_all

/-- What a row's value is: a slice, whose cells are the integers, in a block from B on. -/
theorem Row.form {w : World} {B : Nat} {e : TypeId} {k : IntKind} {v : Value} {zs : List Int} (h : Row w B e k v zs) :
    ∃ A c, v = .slice A zs.length c ∧ Ints w k A zs ∧ (0 < zs.length → ∃ g, A = some ⟨g, 0, none⟩ ∧ B ≤ g ∧ g < w.heap.size) := by
  rcases h.2 with ⟨hv, hn⟩ | ⟨g, cap, cur, hv, hg, hh, hnc, hcm, hcs, ht⟩
  · rw [hv, hn]
    exact ⟨none, 0, rfl, fun h0 => absurd h0 (by omega), fun h0 => absurd h0 (by omega)⟩
  · have hlt : g < w.heap.size := by
      rcases Nat.lt_or_ge g w.heap.size with hlt | hge
      · exact hlt
      · rw [Array.getElem?_eq_none hge] at hh; cases hh
    have h' : w.ownsRow B e 1 (.slice (some ⟨g, 0, none⟩) zs.length cap) zs.length (zs.map (Value.int k)) := by rw [← hv]; exact h
    refine ⟨some ⟨g, 0, none⟩, cap, hv, fun _ => ⟨_, rfl, hlt, fun j hj => ?_⟩, fun _ => ⟨g, rfl, hg, hlt⟩⟩
    rw [at0, h'.cellAt j (by omega)]
    simp [List.getD_eq_getElem?_getD, hj]

theorem Row.mono {w : World} {B B' : Nat} {e : TypeId} {k : IntKind} {v : Value} {zs : List Int} (h : Row w B e k v zs) (hB : B' ≤ B) : Row w B' e k v zs := by
  refine ⟨h.1, ?_⟩
  rcases h.2 with h2 | ⟨g, cap, cur, hv, hg, r⟩
  · exact Or.inl h2
  · exact Or.inr ⟨g, cap, cur, hv, Nat.le_trans hB hg, r⟩
/-- A row that is not empty lies at an address. -/
theorem Row.at_ {w : World} {B n : Nat} {e : TypeId} {k : IntKind} {v : Value} {zs : List Int} (h : Row w B e k v zs) (hn : zs.length = n) (h0 : 0 < n) :
    ∃ g c, v = .slice (some ⟨g, 0, none⟩) n c ∧ B ≤ g ∧ g < w.heap.size ∧ ∀ j, j < n → w.cell? ⟨g, j, none⟩ = some (.int k (zs.getD j 0)) := by
  obtain ⟨A, c, rfl, hI, hA⟩ := h.form
  obtain ⟨g, rfl, hg, hlt⟩ := hA (by omega)
  obtain ⟨ad, e1, _, hc⟩ := hI (by omega)
  obtain rfl : (⟨g, 0, none⟩ : Addr) = ad := by injection e1
  exact ⟨g, c, by rw [hn], hg, hlt, fun j hj => by rw [← at0]; exact hc j (by omega)⟩
/-- A literal of one element. -/
theorem Row.one (w : World) (e : TypeId) (k : IntKind) (z : Int) : Row (w.alloc (.cells #[.int k z] e)) w.heap.size e k (.slice (some ⟨w.heap.size, 0, none⟩) 1 1) [z] :=
  World.ownsRow_lit w #[.int k z] 1 (Nat.le_refl _) (by decide) rfl

section
variable {P : Program}
/-- append(s, z), of a row of the call's own: of the old blocks just the row's own may turn, and the new row lies there, or in a new block. -/
theorem wpList_pushOff {ops : Array Oper} {rest : List Oper} {o : Oper} {a : Act} {Q : Exit → Act → World → Prop} (hgd : o.guard = none) (s x : Operand) (t : TypeId)
    (ho : o.op = .call { callee := .builtin .append, args := #[s, x], argTypes := #[t, t] })
    (e : TypeId) (k : IntKind) (bytes : Nat) (hinfo : (P.info? e).map (fun i => (i.zero, i.size, i.bytes)) = some (some (.int k 0), 1, bytes)) (hby : bytes ≤ 8) (ht : P.underlying t = some (.slice e))
    (w0 W : World) (v : Value) (zs : List Int) (z : Int) (hs : a.eval s = v) (hrow : Row W w0.heap.size e k v zs) (ext : Ext w0 W)
    (hx : a.eval x = .slice (some ⟨W.heap.size, 0, none⟩) 1 1) (hlen : zs.length < 1000000000)
    (h : ∀ v' w', Row w' w0.heap.size e k v' (zs ++ [z]) → Ext w0 w' → (∀ g, g < W.heap.size → v.ownBlock ≠ some g → w'.heap[g]? = W.heap[g]? ∧ v'.ownBlock ≠ some g) → wpList P ops Q rest (a.put o.dst v') w') :
    wpList P ops Q (o :: rest) a (W.alloc (.cells #[.int k z] e)) := by
  obtain ⟨i, hi, hz0, hz1, hz2⟩ := info_parts hinfo
  refine wpList_append_own_at _ hgd s x t ho w0.heap.size e i (.int k 0) 1 bytes ht hi hz0 hz1 hz2 rfl (by decide) v zs.length (zs.map (Value.int k)) hs (hrow.alloc _) ⟨W.heap.size, 0, none⟩ 1 1 [.int k z] hx rfl ?_ ?_ ?_ ?_ ?_ ?_
  · intro j u hj
    match j, hj with
    | 0, hj => simp at hj; subst hj; rw [at0, World.cell?_alloc_at _ _ _ _ rfl]; rfl
  · intro u hu; simp at hu; subst hu; rfl
  · unfold maxLen; omega
  · have : (zs.length + 1) * bytes ≤ 1000000000 * 8 := Nat.mul_le_mul (by omega) hby
    omega
  · have := ext.size; simp; omega
  · intro v' w' hown hg _ hat
    refine h v' w' ?_ ?_ ?_
    · unfold Row
      rw [List.map_append, List.length_append]
      exact hown
    · have hlt := hrow.lt
      exact Ext.of ((Below.alloc ext.below ext.size _).grown hg (by have := ext.size; simp; omega) (fun q hq => (hlt q hq).1))
    · intro g hgl hne
      refine ⟨(hg.block g (by simp; omega) (fun e => hne e.symm)).trans (Below.heap_alloc _ _ _ hgl), ?_⟩
      rcases hat with e | e
      · rw [e]; exact hne
      · rw [e]
        simp
        omega
theorem wpList_push {ops : Array Oper} {rest : List Oper} {o : Oper} {a : Act} {Q : Exit → Act → World → Prop} (hgd : o.guard = none) (s x : Operand) (t : TypeId)
    (ho : o.op = .call { callee := .builtin .append, args := #[s, x], argTypes := #[t, t] })
    (e : TypeId) (k : IntKind) (bytes : Nat) (hinfo : (P.info? e).map (fun i => (i.zero, i.size, i.bytes)) = some (some (.int k 0), 1, bytes)) (hby : bytes ≤ 8) (ht : P.underlying t = some (.slice e))
    (w0 W : World) (v : Value) (zs : List Int) (z : Int) (hs : a.eval s = v) (hrow : Row W w0.heap.size e k v zs) (ext : Ext w0 W)
    (hx : a.eval x = .slice (some ⟨W.heap.size, 0, none⟩) 1 1) (hlen : zs.length < 1000000000)
    (h : ∀ v' w', Row w' w0.heap.size e k v' (zs ++ [z]) → Ext w0 w' → wpList P ops Q rest (a.put o.dst v') w') :
    wpList P ops Q (o :: rest) a (W.alloc (.cells #[.int k z] e)) :=
  wpList_pushOff hgd s x t ho e k bytes hinfo hby ht w0 W v zs z hs hrow ext hx hlen fun v' w' h1 h2 _ => h v' w' h1 h2
end
theorem Row.ext {w w' : World} {B : Nat} {e : TypeId} {k : IntKind} {v : Value} {zs : List Int} (h : Row w B e k v zs) (x : Ext w w') : Row w' B e k v zs := by
  refine ⟨h.1, ?_⟩
  rcases h.2 with h2 | ⟨g, cap, cur, hv, hg, hh, r⟩
  · exact Or.inl h2
  · refine Or.inr ⟨g, cap, cur, hv, hg, ?_, r⟩
    have hlt : g < w.heap.size := by
      rcases Nat.lt_or_ge g w.heap.size with hlt | hge
      · exact hlt
      · rw [Array.getElem?_eq_none hge] at hh; cases hh
    rw [x.block g hlt]; exact hh
/-- A row's block lies below the world's end. -/
theorem Row.off {w : World} {B g : Nat} {e : TypeId} {k : IntKind} {v : Value} {zs : List Int} (h : Row w B e k v zs) (hg : w.heap.size ≤ g) : v.ownBlock ≠ some g := fun he => by
  have := (World.ownsRow.lt h g he).2
  omega
section
variable {P : Program}
/-- append(s, z), of a slice that has no room. -/
theorem wpList_pushFull {ops : Array Oper} {rest : List Oper} {o : Oper} {a : Act} {Q : Exit → Act → World → Prop} (hgd : o.guard = none) (s x : Operand) (t : TypeId)
    (ho : o.op = .call { callee := .builtin .append, args := #[s, x], argTypes := #[t, t] })
    (e : TypeId) (k : IntKind) (bytes : Nat) (hinfo : (P.info? e).map (fun i => (i.zero, i.size, i.bytes)) = some (some (.int k 0), 1, bytes)) (hby : bytes ≤ 8) (ht : P.underlying t = some (.slice e))
    (w0 W : World) (A : Option Addr) (zs : List Int) (z : Int) (hs : a.eval s = .slice A zs.length zs.length) (hA : Ints W k A zs) (ext : Ext w0 W)
    (hx : a.eval x = .slice (some ⟨W.heap.size, 0, none⟩) 1 1) (hlen : zs.length < 1000000000)
    (h : ∀ v' w', Row w' w0.heap.size e k v' (zs ++ [z]) → Ext w0 w' → wpList P ops Q rest (a.put o.dst v') w') :
    wpList P ops Q (o :: rest) a (W.alloc (.cells #[.int k z] e)) := by
  obtain ⟨i, hi, hz0, hz1, hz2⟩ := info_parts hinfo
  have hA' := hA.ext ((Ext.refl W).alloc (.cells #[.int k z] e))
  refine wpList_append_grows _ hgd s x t ho e i (.int k 0) 1 bytes ht hi hz0 hz1 hz2 rfl (by decide) A zs.length zs.length (zs.map (Value.int k)) hs ?_ (by simp) ?_ ⟨W.heap.size, 0, none⟩ 1 1 [.int k z] hx rfl ?_ ?_ (by omega) ?_ ?_ ?_
  · intro hn
    rcases Nat.eq_zero_or_pos zs.length with h0 | h0
    · exact ⟨h0, h0⟩
    · obtain ⟨ad, e1, _⟩ := hA h0
      rw [hn] at e1; cases e1
  · intro b hb j u hu
    have hj : j < zs.length := by
      rcases Nat.lt_or_ge j zs.length with h1 | h1
      · exact h1
      · rw [List.getElem?_eq_none (by simpa using h1)] at hu; cases hu
    obtain ⟨ad, e1, _, hc⟩ := hA' (by omega)
    obtain rfl : b = ad := by rw [hb] at e1; injection e1
    rw [hc j hj]
    simp [List.getD_eq_getElem?_getD, hj] at hu ⊢
    exact hu
  · intro j u hj
    match j, hj with
    | 0, hj => simp at hj; subst hj; rw [at0, World.cell?_alloc_at _ _ _ _ rfl]; rfl
  · intro u hu; simp at hu; subst hu; rfl
  · unfold maxLen; omega
  · have : (zs.length + 1) * bytes ≤ 1000000000 * 8 := Nat.mul_le_mul (by omega) hby
    omega
  · intro v' w' hown hg
    refine h v' w' ?_ ?_
    · have hr : Row w' (W.alloc (.cells #[.int k z] e)).heap.size e k v' (zs ++ [z]) := by
        unfold Row
        rw [List.map_append, List.length_append]
        exact hown
      exact hr.mono (by have := ext.size; simp; omega)
    · exact Ext.of ((Below.alloc ext.below ext.size _).grown hg (by have := ext.size; simp; omega) (fun q hq => by cases hq))
end
section
variable {P : Program}
/-- append(s, z), of a row of the call's own, inside a region whose order is open. -/
theorem step_push {ops : Array Oper} {o : Oper} {a : Act} {K : Act → World → Prop} {Q : Exit → Act → World → Prop} {E : Prop} (hgd : o.guard = none) (s x : Operand) (t : TypeId)
    (ho : o.op = .call { callee := .builtin .append, args := #[s, x], argTypes := #[t, t] })
    (e : TypeId) (k : IntKind) (bytes : Nat) (hinfo : (P.info? e).map (fun i => (i.zero, i.size, i.bytes)) = some (some (.int k 0), 1, bytes)) (hby : bytes ≤ 8) (ht : P.underlying t = some (.slice e))
    (w0 W : World) (v : Value) (zs : List Int) (z : Int) (hs : a.eval s = v) (hrow : Row W w0.heap.size e k v zs) (ext : Ext w0 W)
    (hx : a.eval x = .slice (some ⟨W.heap.size, 0, none⟩) 1 1) (hlen : zs.length < 1000000000)
    (h : ∀ v' w', Row w' w0.heap.size e k v' (zs ++ [z]) → Ext w0 w' → K (a.put o.dst v') w') :
    if Region.wanted o (yielded ops a.tmps) = true then Oper.wp P o a (W.alloc (.cells #[.int k z] e)).drew K Q else E := by
  obtain ⟨i, hi, hz0, hz1, hz2⟩ := info_parts hinfo
  refine step_append_lies _ hgd s x t ho w0.heap.size e i (.int k 0) 1 bytes ht hi hz0 hz1 hz2 rfl (by decide) v zs.length (zs.map (Value.int k)) hs ((hrow.alloc _).drew) ⟨W.heap.size, 0, none⟩ 1 1 [.int k z] hx rfl ?_ ?_ (by omega) ?_ ?_ ?_ _ rfl ?_
  · intro j u hj
    match j, hj with
    | 0, hj =>
      simp at hj
      subst hj
      rw [at0]
      show (W.alloc (.cells #[.int k z] e)).cell? ⟨W.heap.size, 0, none⟩ = _
      rw [World.cell?_alloc_at _ _ _ _ rfl]; rfl
  · intro u hu; simp at hu; subst hu; rfl
  · unfold maxLen; omega
  · have : (zs.length + 1) * bytes ≤ 1000000000 * 8 := Nat.mul_le_mul (by omega) hby
    omega
  · have := ext.size; simp; omega
  · intro g cap w' hown hg _ _
    refine h _ w' ?_ ?_
    · unfold Row
      rw [List.map_append, List.length_append]
      exact hown
    · have hlt := hrow.lt
      exact Ext.of (((Below.alloc ext.below ext.size _).drew).grown hg (by have := ext.size; simp; omega) (fun q hq => (hlt q hq).1))
end
end Go.Proofs.Ythbngenjcgclgaa
