/- limekilnlaw07.Same: a memory and the document's that hold one state are the same. Conditions: those that each theorem names. -/
import Derived.Test.YtolengkegjipaaaGreatKMemB
namespace Go.Proofs.YtolengkegjipaaaGreat
open Go.ChangeShapes Go.WideShapes Go.ChangeAt Go.RowKit
set_option linter.unusedVariables false
end Go.Proofs.YtolengkegjipaaaGreat


/- Acts of layer 7 that came in as a slice; states behind them. Conditions: those that each theorem names. -/
namespace Go.Proofs.YtolengkegjipaaaGreat
open Go.ChangeShapes Go.WideShapes Go.ChangeAt Go.RowKit Go.Deep
set_option linter.unusedVariables false
structure Act7 where
  k : Int
  t : Int
  a : Int
  z : Int
  x : Int
def Act7.at (y : Act7) (w : World) (p : Addr) : Prop :=
  w.cell? p = some (.int .i64 y.k) ∧ w.cell? ⟨p.block, p.off + 1, none⟩ = some (.int .i64 y.t) ∧ w.cell? ⟨p.block, p.off + 2, none⟩ = some (.int .i64 y.a) ∧ w.cell? ⟨p.block, p.off + 3, none⟩ = some (.int .u64 y.z) ∧ w.cell? ⟨p.block, p.off + 4, none⟩ = some (.int .u64 y.x)
def noAct7 : Act7 := ⟨0, 0, 0, 0, 0⟩
/-- The numbers of an act that came in. -/
def Act7.fit (y : Act7) : Prop := -9223372036854775808 ≤ y.a ∧ y.a < 9223372036854775808 ∧ 0 ≤ y.x ∧ y.x < 18446744073709551616
def Acts7 (w : World) (A : Option Addr) (ys : List Act7) : Prop := 0 < ys.length → ∃ ad, A = some ad ∧ ad.block < w.heap.size ∧ ∀ i, i < ys.length → (ys.getD i noAct7).at w (ad.add (i * 5)) ∧ (ys.getD i noAct7).fit
theorem Acts7.ext {w w' : World} {A : Option Addr} {ys : List Act7} (h : Acts7 w A ys) (x : Ext w w') : Acts7 w' A ys := fun h0 => by
  obtain ⟨ad, rfl, hb, hc⟩ := h h0
  refine ⟨ad, rfl, Nat.lt_of_lt_of_le hb x.size, fun i hi => ?_⟩
  obtain ⟨⟨c0, c1, c2, c3, c4⟩, hx⟩ := hc i hi
  have e : w'.heap[ad.block]? = w.heap[ad.block]? := x.block ad.block hb
  have e' : w'.heap[(ad.add (i * 5)).block]? = w.heap[(ad.add (i * 5)).block]? := by rw [add_block]; exact e
  have kk : ∀ q : Addr, q.block = (ad.add (i * 5)).block → w'.cell? q = w.cell? q := fun q hq => World.cell?_of_block (by rw [hq]; exact e')
  exact ⟨⟨(by refine Eq.trans (kk _ ?_) c0; rfl), (by refine Eq.trans (kk _ ?_) c1; rfl), (by refine Eq.trans (kk _ ?_) c2; rfl), (by refine Eq.trans (kk _ ?_) c3; rfl), (by refine Eq.trans (kk _ ?_) c4; rfl)⟩, hx⟩
section
variable {H : Type} {enc : TypeId × Value → H} {P : Program}
end
/-- What holds of a state behind k acts. -/
structure Well (k : Nat) (s : MSt) : Prop where
  fine : Fine k s.dev
  c0 : 0 ≤ s.clock
  c1 : s.clock ≤ k
  b0 : 0 ≤ s.bad
  b1 : s.bad ≤ k
theorem Well.calm {k : Nat} {s : MSt} (h : Well k s) (hk : k ≤ 1000) : Calm s := ⟨h.c0, by have := h.c1; omega, h.b0, by have := h.b1; omega⟩
theorem Well.note {k : Nat} {s s' : MSt} (h : Well k s) (hc : s'.clock = s.clock) (hb : s'.bad = s.bad) (hf : Fine (k + 1) s'.dev) (x : Acc) (b : Bool) : Well (k + 1) (s'.note x b) := by
  obtain ⟨_, c0, c1, b0, b1⟩ := h
  refine ⟨hf, ?_, ?_, ?_, ?_⟩ <;> unfold MSt.note <;> simp only <;> rw [← hc, ← hb] at * <;> (try split) <;> omega
theorem put_fine {k : Nat} {s : MSt} (h : Fine k s.dev) (hk : k ≤ 90) (a x : Int) : Fine (k + 1) (s.put a x).dev := by
  unfold MSt.put
  split
  · exact h.act hk 5 0 0 a x
  · exact h.up
theorem Well.act {k : Nat} {s : MSt} (h : Well k s) (hk : k ≤ 90) (kd t a z x : Int) : Well (k + 1) (s.act kd t a z x) := by
  have hf := h.fine
  unfold MSt.act
  split
  · unfold MSt.load; split <;> exact h.note rfl rfl hf.up _ _
  split
  · unfold MSt.store; split
    · exact h.note (put_clock s a x).1 (put_clock s a x).2 (put_fine hf hk a x) _ _
    · exact h.note rfl rfl hf.up _ _
  split
  · unfold MSt.swap; split
    · split
      · exact h.note (put_clock s a x).1 (put_clock s a x).2 (put_fine hf hk a x) _ _
      · exact h.note rfl rfl hf.up _ _
    · exact h.note rfl rfl hf.up _ _
  split
  · exact h.note (s' := s.withDev (s.dev.flush t (lineNo a))) rfl rfl (hf.act hk 0 t (lineNo a) 0 0) _ _
  split
  · exact h.note (s' := s.withDev (s.dev.fence t)) rfl rfl (hf.act hk 1 t 0 0 0) _ _
  split
  · exact ⟨hf.act hk 2 0 a 0 0, h.c0, by have := h.c1; show s.clock ≤ _; omega, h.b0, by have := h.b1; show s.bad ≤ _; omega⟩
  · exact ⟨hf.act hk 3 0 0 0 0, h.c0, by have := h.c1; show s.clock ≤ _; omega, h.b0, by have := h.b1; show s.bad ≤ _; omega⟩
section
variable {w0 w w' : World} {gm g : Nat} {dv pv rv : Value} {R : RefB} {s : MSt}
theorem IsRMem.heldQ {B : Nat} (h : IsRMem B w g R rv s) (hk : ∀ b, rfoot g R rv b → w'.heap[b]? = w.heap[b]?) : IsRMem B w' g R rv s :=
  ⟨h.bg, (hk _ (Or.inl rfl)).trans h.blk, (RowN.kept (RowN.of_row h.pas) (fun b hb => hk b (Or.inr (Or.inl hb)))).row, h.dev.heldQ (fun b hb => hk b (Or.inr (Or.inr hb))), h.pk, h.lp⟩
theorem BothAt.ext (h : BothAt w0 w gm dv pv g R rv s) (x : Ext w w') : BothAt w0 w' gm dv pv g R rv s :=
  ⟨h.mem.fr (S := fun _ => False) (h.mem.lt.1.trans x) (Fr.of_ext x) (fun _ hs => hs.elim) (fun _ _ => rfl), h.ref.ext x⟩
theorem BothAt.sound (h : BothAt w0 w gm dv pv g R rv s) : Sound s.dev := h.mem.dev.sound
end
end Go.Proofs.YtolengkegjipaaaGreat

