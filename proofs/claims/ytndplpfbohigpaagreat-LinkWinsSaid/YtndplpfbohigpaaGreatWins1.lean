/- A row of pointers that grows; several Sets in a row. Conditions: those that each theorem names. -/
import Derived.Test.YtndplpfbohigpaaGreatKLk
import Derived.Test.YtndplpfbohigpaaGreatLk4
namespace Go.Proofs.YtndplpfbohigpaaGreat
open Go.ChangeShapes Go.WideShapes Go.ChangeAt Go.RowKit
set_option linter.unusedVariables false
section
variable {P : Program}
/-- append(s, p), p a pointer. -/
theorem wpList_pushPtr {ops : Array Oper} {rest : List Oper} {o : Oper} {a : Act} {Q : Exit → Act → World → Prop} (hgd : o.guard = none) (s x : Operand) (t : TypeId)
    (ho : o.op = .call { callee := .builtin .append, args := #[s, x], argTypes := #[t, t] })
    (e : TypeId) (hinfo : (P.info? e).map (fun i => (i.zero, i.size, i.bytes)) = some (some (.pointer none), 1, 8)) (ht : P.underlying t = some (.slice e))
    (w0 W : World) (v : Value) (n : Nat) (ps : List Value) (q : Option Addr) (hs : a.eval s = v) (hrow : W.ownsRow w0.heap.size e 1 v n ps) (ext : Ext w0 W)
    (hx : a.eval x = .slice (some ⟨W.heap.size, 0, none⟩) 1 1) (hlen : n < 1000000000)
    (h : ∀ v' w', w'.ownsRow w0.heap.size e 1 v' (n + 1) (ps ++ [.pointer q]) → Ext w0 w' → Fr (fun b => v.ownBlock = some b) W w' → (∀ g, g < W.heap.size → v.ownBlock ≠ some g → v'.ownBlock ≠ some g) → (∀ g, v'.ownBlock = some g → g < w'.heap.size ∧ (v.ownBlock = some g ∨ W.heap.size ≤ g)) → wpList P ops Q rest (a.put o.dst v') w') :
    wpList P ops Q (o :: rest) a (W.alloc (.cells #[.pointer q] e)) := by
  obtain ⟨i, hi, hz0, hz1, hz2⟩ := info_parts hinfo
  refine wpList_append_own_at _ hgd s x t ho w0.heap.size e i (.pointer none) 1 8 ht hi hz0 hz1 hz2 rfl (by decide) v n ps hs (World.ownsRow.alloc hrow _) ⟨W.heap.size, 0, none⟩ 1 1 [.pointer q] hx rfl ?_ ?_ ?_ ?_ ?_ ?_
  · intro j u hj
    match j, hj with
    | 0, hj => simp at hj; subst hj; rw [at0, World.cell?_alloc_at _ _ _ _ rfl]; rfl
  · intro u hu; simp at hu; subst hu; rfl
  · unfold maxLen; omega
  · omega
  · have := ext.size; simp; omega
  · intro v' w' hown hg _ hat
    have hlt := World.ownsRow.lt hrow
    have x' : Ext w0 w' := Ext.of ((Below.alloc ext.below ext.size _).grown hg (by have := ext.size; simp; omega) (fun q hq => (hlt q hq).1))
    have hsz : W.heap.size + 1 ≤ w'.heap.size := by have := hg.size; simpa using this
    refine h v' w' hown x' ⟨x'.os.trans ext.os.symm, x'.tape.trans ext.tape.symm, x'.output.trans ext.output.symm, by omega, fun g hgl hne => ?_⟩ (fun g hgl hne => ?_) (fun g hg' => ⟨(World.ownsRow.lt hown g hg').2, ?_⟩)
    · exact (hg.block g (by simp; omega) (fun e => hne e.symm)).trans (Below.heap_alloc _ _ _ hgl)
    · rcases hat with e | e
      · rw [e]; exact hne
      · rw [e]
        simp
        omega
    · rcases hat with e | e
      · rw [e] at hg'; exact Or.inl hg'
      · rw [e] at hg'
        right
        simp at hg'
        omega
end
/-- Blocks that are held have turned, and others are held instead. -/
theorem IsMem.moved {Q Q' S : Nat → Prop} {wb w0 w w' : World} {gm : Nat} {dv pv : Value} {s : MSt} (h : IsMem Q wb w0 w gm dv pv s) (f : Fr S w w') (hS : ∀ g, S g → Q g) (h0 : ∀ g, S g → w0.heap.size ≤ g) (hQ : ∀ g, Q' g → g < w'.heap.size ∧ (Q g ∨ w.heap.size ≤ g)) : IsMem Q' w' w0 w' gm dv pv s := by
  have hp : ∀ g, pv.ownBlock = some g → g < w.heap.size := fun g hg => (World.ownsRow.lt h.pas g hg).2
  refine ⟨h.g0, h.blk.fr f (fun hs => (h.q gm (hS gm hs)).1 rfl), h.pas.fr f (fun g hg hs => (h.q g (hS g hs)).2.1 hg), ?_, h.pm, ?_, h.lp, h.ll⟩
  · refine h.dev.turnM (f.ext h.lt.1 h0) f (fun g hs => Or.inr (Or.inr (hS g hs))) (fun g hg => ?_)
    rcases hg with rfl | hg | hg
    · exact ⟨Nat.lt_of_lt_of_le h.blk.lt f.size, Or.inl (Or.inl rfl)⟩
    · exact ⟨Nat.lt_of_lt_of_le (hp g hg) f.size, Or.inl (Or.inr (Or.inl hg))⟩
    · exact ⟨(hQ g hg).1, (hQ g hg).2.elim (fun h2 => Or.inl (Or.inr (Or.inr h2))) Or.inr⟩
  · intro g hg
    obtain ⟨h1, h2 | h2⟩ := hQ g hg
    · exact ⟨(h.q g h2).1, (h.q g h2).2.1, rfl⟩
    · refine ⟨fun e => ?_, fun e => ?_, rfl⟩
      · have := h.blk.lt; omega
      · have := hp g e; omega
def ptrS (g : Nat) : Value := .pointer (some ⟨g, 0, none⟩)
def ptrsS (gs : Nat → Nat) (k : Nat) : List Value := (List.range k).map fun i => ptrS (gs i)
theorem ptrsS_len (gs : Nat → Nat) (k : Nat) : (ptrsS gs k).length = k := by simp [ptrsS]
theorem ptrsS_succ (gs : Nat → Nat) (k g : Nat) : ptrsS (fun i => if i = k then g else gs i) (k + 1) = ptrsS gs k ++ [ptrS g] := by
  unfold ptrsS
  rw [List.range_succ, List.map_append]
  congr 1
  · refine List.map_congr_left (fun i hi => ?_)
    have := List.mem_range.1 hi
    show ptrS (if i = k then g else gs i) = _
    rw [if_neg (by omega)]
  · simp
theorem ptrsS_get {gs : Nat → Nat} {k i : Nat} (h : i < k) : (ptrsS gs k)[i]? = some (ptrS (gs i)) := by
  unfold ptrsS
  rw [List.getElem?_map, List.getElem?_range h]
  rfl
/-- Several Sets, by threads, in a row. -/
structure SetsAt (w1 w : World) (gm : Nat) (dv pv v : Value) (gs : Nat → Nat) (k : Nat) (hs : List LsM) (s : MSt) : Prop where
  m : IsMem (fun q => v.ownBlock = some q ∨ ∃ i, i < k ∧ q = gs i) w w1 w gm dv pv s
  row : w.ownsRow w1.heap.size 123 1 v k (ptrsS gs k)
  a : ∀ (i : Nat) (x : LsM), hs[i]? = some x → Blk w (gs i) 242 (x.cells i 20 (soN (linkN i)) (clN 0)) ∧ v.ownBlock ≠ some (gs i) ∧ w1.heap.size ≤ gs i
  d : ∀ i j, i < k → j < k → gs i = gs j → i = j
  len : hs.length = k
section
variable {w1 w wa w' : World} {gm : Nat} {dv pv v v' : Value} {gs : Nat → Nat} {k : Nat} {hs : List LsM} {s s' : MSt}
theorem SetsAt.ext (h : SetsAt w1 w gm dv pv v gs k hs s) (x : Ext w w') : SetsAt w1 w' gm dv pv v gs k hs s :=
  ⟨(h.m.ext x).here, owns_keep9 h.row (fun g hg => x.block g (World.ownsRow.lt h.row g hg).2), fun i y e => ⟨(h.a i y e).1.ext x, (h.a i y e).2⟩, h.d, h.len⟩
theorem SetsAt.push (h : SetsAt w1 w gm dv pv v gs k hs s) (xa : Ext w wa) {g : Nat} {y : LsM} (hg : w.heap.size ≤ g) (hb : Blk wa g 242 (y.cells k 20 (soN (linkN k)) (clN 0)))
    (hrow : w'.ownsRow w1.heap.size 123 1 v' (k + 1) (ptrsS gs k ++ [ptrS g])) (f : Fr (fun b => v.ownBlock = some b) wa w') (hv : ∀ q, q < wa.heap.size → v.ownBlock ≠ some q → v'.ownBlock ≠ some q) (hv2 : ∀ q, v'.ownBlock = some q → q < w'.heap.size ∧ (v.ownBlock = some q ∨ wa.heap.size ≤ q)) :
    SetsAt w1 w' gm dv pv v' (fun i => if i = k then g else gs i) (k + 1) (hs ++ [y]) s := by
  have hgl := hb.lt
  have hvb : ∀ q, v.ownBlock = some q → w1.heap.size ≤ q ∧ q < w.heap.size := fun q hq => World.ownsRow.lt h.row q hq
  have hvg : v.ownBlock ≠ some g := fun e => by have := (hvb g e).2; omega
  have low : ∀ i, i < k → gs i < w.heap.size := fun i hi => by
    have e : hs[i]? = some (hs[i]'(by rw [h.len]; exact hi)) := List.getElem?_eq_getElem _
    exact (h.a i _ e).1.lt
  have m1 : IsMem (fun q => v.ownBlock = some q ∨ (∃ i, i < k ∧ q = gs i) ∨ q = g) wa w1 wa gm dv pv s := h.m.hold xa (fun q hq => by
    rcases hq with hq | ⟨i, hi, rfl⟩ | rfl
    · exact ⟨Nat.lt_of_lt_of_le (hvb q hq).2 xa.size, Or.inl (Or.inl hq)⟩
    · exact ⟨Nat.lt_of_lt_of_le (low i hi) xa.size, Or.inl (Or.inr ⟨i, hi, rfl⟩)⟩
    · exact ⟨hgl, Or.inr hg⟩)
  refine ⟨m1.moved f (fun q hq => Or.inl hq) (fun q hq => (hvb q hq).1) (fun q hq => ?_), by rw [ptrsS_succ]; exact hrow, fun i x e => ?_, fun i j hi hj e => ?_, by rw [List.length_append, h.len]; rfl⟩
  · rcases hq with hq | ⟨i, hi, rfl⟩
    · obtain ⟨a1, a2⟩ := hv2 q hq
      exact ⟨a1, a2.imp Or.inl id⟩
    · by_cases c : i = k
      · rw [if_pos c]
        exact ⟨Nat.lt_of_lt_of_le hgl f.size, Or.inl (Or.inr (Or.inr rfl))⟩
      · rw [if_neg c]
        have := low i (by omega)
        exact ⟨Nat.lt_of_lt_of_le this (Nat.le_trans xa.size f.size), Or.inl (Or.inr (Or.inl ⟨i, by omega, rfl⟩))⟩
  · rw [List.getElem?_append] at e
    by_cases c : i < hs.length
    · rw [if_pos c] at e
      obtain ⟨b1, b2, b3⟩ := h.a i x e
      have ck : i ≠ k := by rw [h.len] at c; omega
      rw [if_neg ck]
      exact ⟨(b1.ext xa).fr f b2, hv _ (Nat.lt_of_lt_of_le b1.lt xa.size) b2, b3⟩
    · rw [if_neg c] at e
      have ck : i = k := by
        have : i - hs.length < 1 := (List.getElem?_eq_some_iff.1 e).1
        rw [h.len] at this c
        omega
      subst ck
      rw [h.len, Nat.sub_self] at e
      injection e with e
      subst e
      rw [if_pos rfl]
      exact ⟨hb.fr f hvg, hv _ hgl hvg, Nat.le_trans h.m.lt.1.size hg⟩
  · by_cases ci : i = k <;> by_cases cj : j = k
    · omega
    · rw [if_pos ci, if_neg cj] at e
      have := low j (by omega)
      omega
    · rw [if_neg ci, if_pos cj] at e
      have := low i (by omega)
      omega
    · rw [if_neg ci, if_neg cj] at e
      exact h.d i j (by omega) (by omega) e
/-- A step of one. -/
theorem SetsAt.step (h : SetsAt w1 w gm dv pv v gs k hs s) {t : Nat} {x y : LsM} (e0 : hs[t]? = some x)
    (m : IsMem (fun q => v.ownBlock = some q ∨ ∃ i, i < k ∧ q = gs i) w' w1 w' gm dv pv s') (hb : Blk w' (gs t) 242 (y.cells t 20 (soN (linkN t)) (clN 0))) (kp : ∀ b, (v.ownBlock = some b ∨ ∃ i, i < k ∧ b = gs i) → b ≠ gs t → w'.heap[b]? = w.heap[b]?) :
    SetsAt w1 w' gm dv pv v gs k (hs.set t y) s' := by
  have hlt : t < hs.length := (List.getElem?_eq_some_iff.1 e0).1
  obtain ⟨a1, a2, a3⟩ := h.a t x e0
  refine ⟨m, owns_keep9 h.row (fun g hg => kp g (Or.inl hg) (fun e => a2 (by rw [← e]; exact hg))), fun i z e => ?_, h.d, by rw [List.length_set]; exact h.len⟩
  rw [set_get9 _ _ _ _ hlt] at e
  by_cases c : i = t
  · rw [if_pos c] at e
    injection e with e
    subst c e
    exact ⟨hb, a2, a3⟩
  · rw [if_neg c] at e
    obtain ⟨b1, b2, b3⟩ := h.a i z e
    have hik : i < k := by rw [← h.len]; exact (List.getElem?_eq_some_iff.1 e).1
    exact ⟨(kp _ (Or.inr ⟨i, hik, rfl⟩) (fun c2 => c (h.d i t hik (by rw [← h.len]; exact hlt) c2))).trans b1, b2, b3⟩
/-- The row's form, where it is not empty. -/
theorem SetsAt.form (h : SetsAt w1 w gm dv pv v gs k hs s) (hk : 0 < k) : ∃ g c, v = .slice (some ⟨g, 0, none⟩) k c := by
  rcases h.row.2 with ⟨_, hn⟩ | ⟨g, cap, cur, hv, _⟩
  · omega
  · exact ⟨g, cap, hv⟩
theorem SetsAt.cell {g c : Nat} (h : SetsAt w1 w gm dv pv (.slice (some ⟨g, 0, none⟩) k c) gs k hs s) {i : Nat} (hi : i < k) : w.cell? ⟨g, i, none⟩ = some (ptrS (gs i)) := by
  rcases h.row.2 with ⟨hv, _⟩ | ⟨g', cap, cur, hv, _, hh, _, _, _, ht⟩
  · cases hv
  · injection hv with hv
    injection hv with hv
    injection hv with hv
    subst hv
    have h1 : w.cell? ⟨g, i, none⟩ = cur[i]? := cell_of_row w g i cur 123 (0, 0) hh
    rw [h1, ← Array.getElem?_toList]
    have h2 : (cur.toList.take (k * 1))[i]? = (ptrsS gs k)[i]? := by rw [ht]
    rw [List.getElem?_take, if_pos (by omega)] at h2
    rw [h2, ptrsS_get hi]
end
end Go.Proofs.YtndplpfbohigpaaGreat
