/- Memory: Crash, Writes; an act of layer 7 on a memory (limekilnlaw07.Do). Conditions: those that each theorem names. -/
import Derived.Test.YtfbobdkfibhcnaaKPmB
import Derived.Test.YtfbobdkfibhcnaaKRefB
namespace Go.Proofs.Ytfbobdkfibhcnaa
open Go.ChangeShapes Go.WideShapes Go.ChangeAt Go.RowKit
set_option linter.unusedVariables false
/-- clear(passing). -/
theorem clear_words {w : World} {B : Nat} {pv : Value} {zs : List Int} (ty : TypeId) (h : Row w B 52 .u64 pv zs) :
    ∃ w', (Builtin.clear_ #[80] ty #[pv]).run Try.prog w = .ok (.tuple #[]) w' ∧ Row w' B 52 .u64 pv (List.replicate zs.length 0) ∧ Fr (fun b => pv.ownBlock = some b) w w' := by
  obtain ⟨i, hi, hz0, hz1, hz2⟩ := info_parts word_info
  rcases h.2 with ⟨rfl, h0⟩ | ⟨g, cap, cur, rfl, hg, hh, hnc, hcm, hcs, ht⟩
  · refine ⟨w, ?_, ?_, Fr.refl _ w⟩
    · simp [Builtin.clear_, run_underlying Try.underlying80]
    · rw [h0]
      exact Row.nil _ _ _ _
  · obtain ⟨n, hn⟩ : ∃ n, zs.length = n := ⟨_, rfl⟩
    rw [hn] at hnc ht h ⊢
    cases n with
    | zero =>
      refine ⟨w, ?_, ?_, Fr.refl _ w⟩
      · simp [Builtin.clear_, run_underlying Try.underlying80]
      · refine ⟨by simp, Or.inr ⟨g, cap, cur, by simp, hg, hh, by simp, hcm, hcs, by simp⟩⟩
    | succ n =>
      have hst := run_storeCells_at Try.prog g 0 52 (List.replicate (n + 1) (Value.int .u64 0)) 0 cur w hh (by simp; omega) (by intro v hv; rw [(List.mem_replicate.1 hv).2]; rfl)
      rw [show (0 : Nat) + 0 = 0 from rfl, List.take_zero, List.nil_append, List.length_replicate, Nat.zero_add] at hst
      have hzc : (Builtin.zeroCells (Value.int .u64 0).cells (n + 1)).toList = List.replicate (n + 1) (Value.int .u64 0) := by
        show (Builtin.zeroCells #[Value.int .u64 0] (n + 1)).toList = _
        unfold Builtin.zeroCells
        apply List.ext_getElem
        · simp
        · intro j h1 h2
          simp [Nat.mod_one]
      refine ⟨w.setRow g (List.replicate (n + 1) (Value.int .u64 0) ++ List.drop (n + 1) cur.toList).toArray, ?_, ?_, setRow_fr w g _ |>.mono (fun b _ e => by rw [e]; rfl)⟩
      · simp [Builtin.clear_, run_underlying Try.underlying80, zeroValue, typeInfo, hi, hz0]
        rw [hzc, hst]
        rfl
      · refine ⟨by simp, Or.inr ⟨g, cap, _, by simp, hg, setRow_heap w g cur _ _ _ hh, by simpa using hnc, hcm, ?_, ?_⟩⟩
        · simp; omega
        · simp
theorem lim_zero (n : Nat) : Lim (List.replicate n 0) 18446744073709551616 := by
  intro j hj
  simp only [List.length_replicate] at hj
  simp [List.getD_eq_getElem?_getD, hj]
def MSt.crash (s : MSt) : MSt := { s with dev := s.dev.crashed, pas := List.replicate s.pas.length 0, last := ⟨0, 0, 0, 0, 0, false⟩ }
section
variable {Q : Nat → Prop} {wb w0 w w' : World} {gm : Nat} {dv pv : Value} {s : MSt}
/-- All passing words have turned. -/
theorem IsMem.pasAll (h : IsMem Q wb w0 w gm dv pv s) (zs : List Int) (hl : zs.length = s.pas.length) (hz : Lim zs 18446744073709551616) (hr : Row w' w0.heap.size 52 .u64 pv zs) (f : Fr (fun b => pv.ownBlock = some b) w w') : IsMem Q wb w0 w' gm dv pv { s with pas := zs } := by
  have x' : Ext w0 w' := f.ext h.lt.1 (fun g hg => (World.ownsRow.lt h.pas g hg).1)
  refine ⟨h.g0, h.blk.fr f h.pm, hr, ?_, h.pm, ?_, by show zs.length ≤ _; rw [hl]; exact h.lp, hz⟩
  · exact h.dev.turnM x' f (fun b hb => Or.inr (Or.inl hb)) (fun b hb => ⟨Nat.lt_of_lt_of_le (h.dev.held.2 b hb).1 f.size, Or.inl hb⟩)
  · intro b hb
    exact ⟨(h.q b hb).1, (h.q b hb).2.1, (f.block b (h.lt.2 b hb) (h.q b hb).2.1).trans (h.q b hb).2.2⟩
end
/-- A memory's state behind an act. -/
def MSt.act (s : MSt) (k t a z x : Int) : MSt := if k = 1 then s.load t a else if k = 2 then s.store t a x else if k = 3 then s.swap t a z x else if k = 4 then s.flush t a else if k = 5 then s.fence t else if k = 6 then s.withDev (s.dev.evict a) else s.crash
section
variable {Q : Nat → Prop} {wb w0 w w' : World} {gm : Nat} {dv pv : Value} {s : MSt}
end
end Go.Proofs.Ytfbobdkfibhcnaa
