/- What is kept of a line was seen of it once, in numbers; a row of slices that is held beside a device. Conditions: those that each theorem names. -/
import Derived.Test.YtibeeobhpdallaaFencesWalk
namespace Go.Proofs.Ytibeeobhpdallaa
open Go.ChangeShapes Go.WideShapes Go.ChangeAt Go.RowKit
set_option linter.unusedVariables false
theorem act_line {s : DSt} (hb : Big s) (hr : ∀ t, ∀ x ∈ s.fl.getD t [], 0 ≤ x ∧ x < (s.n : Int)) (k t l a x : Int) (q : Nat) (hq : q < s.n) :
    lineOf (s.act k t l a x).kept q = lineOf s.kept q ∨ lineOf (s.act k t l a x).kept q = lineOf s.seen q := by
  unfold DSt.act
  split
  · left; unfold DSt.flush; split <;> rfl
  split
  · unfold DSt.fence
    split
    · exact (backs_line (s.fl.getD t.toNat []) s hb (hr _) q hq).1
    · exact Or.inl rfl
  split
  · unfold DSt.evict
    split
    · rename_i h
      have hl := back_line hb l.toNat q (by omega) hq
      by_cases e : q = l.toNat
      · right; rw [hl, if_pos e, e]
      · left; rw [hl, if_neg e]
    · exact Or.inl rfl
  split
  · exact Or.inl rfl
  split
  · exact Or.inl rfl
  · left; unfold DSt.store; split <;> rfl
/-- Each line that is kept was seen once. -/
theorem kept_once (s0 : DSt) (ys : List Act5) (h0 : s0.kept = s0.seen) (hF : ∀ i, i ≤ ys.length → Fine i (s0.acts (ys.take i))) (hB : ∀ i, i ≤ ys.length → Big (s0.acts (ys.take i))) (q : Nat) (hq : q < s0.n) :
    ∀ i, i ≤ ys.length → ∃ k, k ≤ i ∧ lineOf (s0.acts (ys.take k)).seen q = lineOf (s0.acts (ys.take i)).kept q := by
  intro i
  induction i with
  | zero => intro _; exact ⟨0, Nat.le_refl _, by show lineOf s0.seen q = lineOf s0.kept q; rw [h0]⟩
  | succ i ih =>
    intro hi
    obtain ⟨k, hk, e⟩ := ih (by omega)
    have hn := (acts_n (ys.take i) s0).1
    have hl := act_line (hB i (by omega)) (hF i (by omega)).rng (ys.getD i noAct).k (ys.getD i noAct).t (ys.getD i noAct).l (ys.getD i noAct).a (ys.getD i noAct).x q (by rw [hn]; exact hq)
    rw [← acts_take s0 ys i (by omega)] at hl
    rcases hl with hl | hl
    · exact ⟨k, by omega, by rw [hl]; exact e⟩
    · exact ⟨i, by omega, by rw [hl]⟩
/-- A row of slices of words, of the call's own. -/
def RowV (w : World) (B : Nat) (v : Value) (us : List Value) : Prop := w.ownsRow B 22 1 v us.length us
theorem slice_info : (Try.prog.info? 22).map (fun i => (i.zero, i.size, i.bytes)) = some (some (.slice none 0 0), 1, 24) := by kernel_rfl
/-- append(s, a slice of words), of a row of the call's own. -/
theorem wpList_pushV {ops : Array Oper} {rest : List Oper} {o : Oper} {a : Act} {Q : Exit → Act → World → Prop} (hgd : o.guard = none) (s x : Operand)
    (ho : o.op = .call { callee := .builtin .append, args := #[s, x], argTypes := #[43, 43] })
    (w0 W : World) (v : Value) (us : List Value) (A : Option Addr) (n c : Nat) (hs : a.eval s = v) (hrow : RowV W w0.heap.size v us) (ext : Ext w0 W)
    (hx : a.eval x = .slice (some ⟨W.heap.size, 0, none⟩) 1 1) (hlen : us.length < 1000000)
    (h : ∀ v' w', RowV w' w0.heap.size v' (us ++ [.slice A n c]) → Ext w0 w' → Fr (fun g => v.ownBlock = some g) W w' → (∀ g, v'.ownBlock = some g → v.ownBlock = some g ∨ W.heap.size ≤ g) → wpList Try.prog ops Q rest (a.put o.dst v') w') :
    wpList Try.prog ops Q (o :: rest) a (W.alloc (.cells #[.slice A n c] 22)) := by
  obtain ⟨i, hi, hz0, hz1, hz2⟩ := info_parts slice_info
  refine wpList_append_own_at _ hgd s x _ ho w0.heap.size 22 i _ 1 24 Try.underlying43 hi hz0 hz1 hz2 rfl (by decide) v us.length us hs (World.ownsRow.alloc hrow _) ⟨W.heap.size, 0, none⟩ 1 1 [.slice A n c] hx rfl ?_ ?_ ?_ ?_ ?_ ?_
  · intro j u hj
    match j, hj with
    | 0, hj => simp at hj; subst hj; rw [at0, World.cell?_alloc_at _ _ _ _ rfl]; rfl
  · intro u hu; simp at hu; subst hu; rfl
  · unfold maxLen; omega
  · omega
  · have := ext.size; simp; omega
  · intro v' w' hown hg _ hat
    have hlt := World.ownsRow.lt hrow
    refine h v' w' ?_ ?_ ?_ ?_
    · unfold RowV
      rw [List.length_append]
      exact hown
    · exact Ext.of ((Below.alloc ext.below ext.size _).grown hg (by have := ext.size; simp; omega) (fun q hq => (hlt q hq).1))
    · have hsz := hg.size
      simp at hsz
      refine ⟨hg.os, hg.tape, hg.output, by omega, fun g hgl hne => (hg.block g (by simp; omega) (fun e => hne e.symm)).trans (Below.heap_alloc _ _ _ hgl)⟩
    · intro g hgo
      rcases hat with e | e
      · left; rw [← e]; exact hgo
      · right
        rw [e] at hgo
        simp at hgo
        omega
theorem AtQ.turn {Q Q' : Nat → Prop} {S : Nat → Prop} {wb w0 w w' : World} {v : Value} {s : DSt} (h : AtQ Q wb w0 w v s) (x : Ext w0 w') (f : Fr S w w') (hS : ∀ g, S g → Q g) (hQ' : ∀ g, Q' g → g < w'.heap.size ∧ (Q g ∨ w.heap.size ≤ g)) : AtQ Q' w' w0 w' v s := by
  obtain ⟨D, rfl, h, e, hQ⟩ := h
  refine ⟨D, rfl, h.fr f (fun g hf hs => (hQ g (hS g hs)).2.1 hf), x, fun g hg => ?_⟩
  obtain ⟨h1, h2⟩ := hQ' g hg
  refine ⟨h1, fun hf => ?_, rfl⟩
  rcases h2 with h2 | h2
  · exact (hQ g h2).2.1 hf
  · have := (h.foot_ge hf).2
    omega
end Go.Proofs.Ytibeeobhpdallaa
