/- One thread's row and machine among several. Conditions: those that each theorem names. -/
import Derived.Test.YtndplpfbohigpaaGreatKFM
namespace Go.Proofs.YtndplpfbohigpaaGreat
open Go.ChangeShapes Go.WideShapes Go.ChangeAt Go.RowKit
set_option linter.unusedVariables false
theorem set_self {α : Type} (l : List α) (i : Nat) (a : α) (h : l[i]? = some a) : l.set i a = l := by
  refine List.ext_getElem? (fun j => ?_)
  have hlt := (List.getElem?_eq_some_iff.1 h).1
  rw [set_get _ _ _ _ hlt]
  by_cases e : j = i
  · rw [if_pos e, e, h]
  · rw [if_neg e]
theorem mapR_set {α : Type} (f : Nat → α) (T k : Nat) (v : α) (hk : k < T) : ((List.range T).map f).set k v = (List.range T).map (fun i => if i = k then v else f i) := by
  refine List.ext_getElem? (fun j => ?_)
  rw [set_get _ _ _ _ (by simpa using hk), List.getElem?_map, List.getElem?_map]
  by_cases e : j = k
  · subst e
    rw [if_pos rfl, List.getElem?_range hk]
    simp
  · rw [if_neg e]
    by_cases hj : j < T
    · rw [List.getElem?_range hj]
      simp [e]
    · rw [List.getElem?_eq_none (by simp; omega)]
      rfl
theorem mapR_eq {α : Type} (f g : Nat → α) (T : Nat) (h : ∀ i, i < T → f i = g i) : (List.range T).map f = (List.range T).map g := List.map_congr_left (fun i hi => h i (List.mem_range.1 hi))
theorem mapIdx_set9 {α β : Type} (f : Nat → α → β) (l : List α) (i : Nat) (a : α) (hi : i < l.length) : (l.set i a).mapIdx f = (l.mapIdx f).set i (f i a) := by
  refine List.ext_getElem? (fun j => ?_)
  rw [List.getElem?_mapIdx, set_get _ _ _ _ hi, set_get _ _ _ _ (by simpa using hi), List.getElem?_mapIdx]
  by_cases e : j = i
  · subst e
    rw [if_pos rfl, if_pos rfl]
    rfl
  · rw [if_neg e, if_neg e]
structure HAt (C : TypeId) (sz : Nat) (w1 w : World) (gm : Nat) (dv pv : Value) (gl gh : Nat) (F : Nat → Int) (rows : List (List Value)) (os : List Owned) (tt : Nat) (r : List Value) (o : Owned) (s : MSt) : Prop where
  m : ManyAt C w1 w gm dv pv gl gh F (rows.set tt r) (os.set tt o) s
  hl : ∀ x ∈ rows, x.length = sz
  hr : r.length = sz
  h1 : tt < rows.length
  h2 : tt < os.length
section
variable {C : TypeId} {sz : Nat} {w1 w w' : World} {gm gl gh : Nat} {dv pv : Value} {F : Nat → Int} {rows : List (List Value)} {os : List Owned} {tt : Nat} {r : List Value} {o : Owned} {s s' : MSt}
theorem HAt.of (m : ManyAt C w1 w gm dv pv gl gh F rows os s) (hl : ∀ x ∈ rows, x.length = sz) (e1 : rows[tt]? = some r) (e2 : os[tt]? = some o) : HAt C sz w1 w gm dv pv gl gh F rows os tt r o s :=
  ⟨by rw [set_self _ _ _ e1, set_self _ _ _ e2]; exact m, hl, hl r (List.mem_of_getElem? e1), (List.getElem?_eq_some_iff.1 e1).1, (List.getElem?_eq_some_iff.1 e2).1⟩
theorem HAt.all (h : HAt C sz w1 w gm dv pv gl gh F rows os tt r o s) : ∀ x ∈ rows.set tt r, x.length = sz := fun x hx => by
  obtain ⟨i, hi⟩ := List.mem_iff_getElem?.1 hx
  rw [set_get _ _ _ _ h.h1] at hi
  by_cases e : i = tt
  · rw [if_pos e] at hi
    injection hi with hi
    rw [← hi]
    exact h.hr
  · rw [if_neg e] at hi
    exact h.hl x (List.mem_of_getElem? hi)
theorem HAt.row (h : HAt C sz w1 w gm dv pv gl gh F rows os tt r o s) : (rows.set tt r)[tt]? = some r := by rw [set_get _ _ _ _ h.h1, if_pos rfl]
theorem HAt.own (h : HAt C sz w1 w gm dv pv gl gh F rows os tt r o s) : (os.set tt o)[tt]? = some o := by rw [set_get _ _ _ _ h.h2, if_pos rfl]
theorem HAt.ext (h : HAt C sz w1 w gm dv pv gl gh F rows os tt r o s) (x : Ext w w') : HAt C sz w1 w' gm dv pv gl gh F rows os tt r o s := ⟨h.m.ext x, h.hl, h.hr, h.h1, h.h2⟩
theorem HAt.cell (h : HAt C sz w1 w gm dv pv gl gh F rows os tt r o s) {f : Nat} (hf : f < sz) : w.cell? ⟨gh, tt * sz + f, none⟩ = r[f]? := by
  rw [h.m.h.cell, flat_get _ _ _ h.all hf, h.row]
  rfl
theorem HAt.frozen (h : HAt C sz w1 w gm dv pv gl gh F rows os tt r o s) (f : Nat) : w.frozen? ⟨gh, tt * sz + f, none⟩ = false := h.m.h.frozen _
theorem HAt.put (h : HAt C sz w1 w gm dv pv gl gh F rows os tt r o s) {f : Nat} (hf : f < sz) (v : Value) : HAt C sz w1 (w.setCell ⟨gh, tt * sz + f, none⟩ v) gm dv pv gl gh F rows os tt (r.set f v) o s :=
  ⟨by have := h.m.put h.all hf h.row v; rw [List.set_set] at this; exact this, h.hl, by rw [List.length_set]; exact h.hr, h.h1, h.h2⟩
theorem HAt.take (h : HAt C sz w1 w gm dv pv gl gh F rows os tt r o s) (x : Ext w w') {q : Nat × TypeId × List Value} (hg : w.heap.size ≤ q.1) (hb : Blk w' q.1 q.2.1 q.2.2) : HAt C sz w1 w' gm dv pv gl gh F rows os tt r (some q) s :=
  ⟨by have := h.m.take x (i := tt) (q := q) (by rw [List.length_set]; exact h.h2) hg hb; rw [List.set_set] at this; exact this, h.hl, h.hr, h.h1, h.h2⟩
theorem HAt.blk {q : Nat × TypeId × List Value} (h : HAt C sz w1 w gm dv pv gl gh F rows os tt r (some q) s) : Blk w q.1 q.2.1 q.2.2 := (h.m.a tt q h.own).1
end
/-- What each thread of FreeMany has: its row, and its machine. -/
def Hd.cells (h : Hd) : List Value := [.pointer (if h.pop = true then some ⟨h.g, 0, none⟩ else none), .pointer (if h.pop = true then none else some ⟨h.g, 0, none⟩), .int .i64 (if h.pop = true then -1 else h.x.y)]
def Hd.own (gl : Nat) (i : Nat) (h : Hd) : Owned := some (h.g, if h.pop = true then 275 else 279, h.x.cells gl i)
theorem hadC_count {k : Int} (hk : 0 ≤ k) : ∀ hs : List Hd, (hs.map fun h => if h.pop = true then (-1 : Int) else h.x.y).count k = hadC k hs
  | [] => rfl
  | h :: hs => by
    rw [List.map_cons, List.count_cons, hadC_count hk hs]
    show _ = had1 k h + hadC k hs
    unfold had1
    by_cases hp : h.pop = true
    · rw [if_pos hp, if_pos hp, if_neg (by simp; omega)]
      simp
    · rw [if_neg hp, if_neg hp]
      by_cases e : h.x.y = k
      · rw [if_pos (by simpa using e), if_pos e]
        omega
      · rw [if_neg (by simpa using e), if_neg e]
        omega
end Go.Proofs.YtndplpfbohigpaaGreat
