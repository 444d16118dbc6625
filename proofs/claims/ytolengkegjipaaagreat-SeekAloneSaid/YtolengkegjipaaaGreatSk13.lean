/- A Seek's steps in a law's walk: what stays, what it tells. Conditions: those that each theorem names. -/
import Derived.Test.YtolengkegjipaaaGreatKSkD
import Derived.Test.YtolengkegjipaaaGreatKSkA
import Derived.Test.YtolengkegjipaaaGreatKLkA
import Derived.Test.YtolengkegjipaaaGreatKPk
import Derived.Test.YtolengkegjipaaaGreatKGr
namespace Go.Proofs.YtolengkegjipaaaGreat
open Go.ChangeShapes Go.WideShapes Go.ChangeAt Go.RowKit
set_option linter.unusedVariables false
theorem mput_n (s : MSt) (a x : Int) : (s.put a x).dev.n = s.dev.n := by
  unfold MSt.put
  split
  · exact (act_n s.dev 5 0 0 a x).1
  · rfl
theorem mact_n (s : MSt) (kd t a z x : Int) : (s.act kd t a z x).dev.n = s.dev.n := by
  unfold MSt.act
  split
  · rw [(load_parts s t a).1]
  split
  · unfold MSt.store
    split
    · exact mput_n s a x
    · rfl
  split
  · exact swap_n s t a z x
  split
  · exact (seen_flush s.dev t (lineNo a)).2
  split
  · exact (seen_fence s.dev t).2
  split
  · exact (act_n s.dev 2 0 a 0 0).1
  · exact (act_n s.dev 3 0 0 0 0).1
theorem lrS_n {t a : Int} {x : LrM} {s : MSt} : (lrS t a x s).2.dev.n = s.dev.n := by
  unfold lrS
  split
  · rfl
  split
  · exact mact_n s 1 t a 0 0
  split
  · exact mact_n s 4 t a 0 0
  split
  · exact mact_n s 5 t 0 0 0
  · exact mact_n s 3 t a x.wd (clN x.wd)
theorem lsS_n {t a wd old : Int} {x : LsM} {s : MSt} : (lsS t a wd old x s).2.dev.n = s.dev.n := by
  unfold lsS
  split
  · rfl
  split
  · exact mact_n s 3 t a old wd
  split
  · exact mact_n s 4 t a 0 0
  split
  · exact mact_n s 5 t 0 0 0
  · exact mact_n s 3 t a wd (clN wd)
theorem skS_keeps {k n : Nat} {c : Int} {F : Nat → Int} {th head key : Int} {x : SkM} {s : MSt} (hf : Fine k s.dev) (hn : s.dev.n ≤ 90) (hc : CalmN c s) : Fine (k + 1) (skS F th head key x s n).2.dev ∧ (skS F th head key x s n).2.dev.n ≤ 90 ∧ CalmN (c + 1) (skS F th head key x s n).2 := by
  have h0 : Fine (k + 1) s.dev ∧ s.dev.n ≤ 90 ∧ CalmN (c + 1) s := ⟨hf.up, hn, hc.mono (by omega)⟩
  unfold skS
  split
  · exact h0
  · split
    · exact h0
    · exact ⟨lrS_fine9 hf hn, by show (lrS _ _ _ _).2.dev.n ≤ 90; rw [lrS_n]; exact hn, lrS_calm hc⟩
  · split
    · exact h0
    · exact ⟨lrS_fine9 hf hn, by show (lrS _ _ _ _).2.dev.n ≤ 90; rw [lrS_n]; exact hn, lrS_calm hc⟩
  · split
    · exact h0
    · exact ⟨lsS_fine9 hf hn, by show (lsS _ _ _ _ _ _).2.dev.n ≤ 90; rw [lsS_n]; exact hn, lsS_calm hc⟩
  · exact ⟨act_fine9 hf hn 1 th _ 0 0, by show (s.load _ _).dev.n ≤ 90; rw [(load_parts s th _).1]; exact hn, act_calm hc 1 th _ 0 0⟩
section
variable {Q Q' : Nat → Prop} {w0 w w' : World} {gm gs gl : Nat} {dv pv : Value} {s s' : MSt} {th head key : Int} {x : SkM}
theorem SkAt.endC (h : SkAt Q w0 w gm gs gl dv pv th head key x s) (hp : x.part ≤ 4) : EndC w gs (if x.part = 0 then x.fat else -1) (if x.part = 0 then x.fwd else 0) (if x.part = 0 then x.fwh else -1) (if x.part = 0 then x.hwd else 0) (if x.part = 0 then x.hwh else 0) (if x.part = 0 then x.fnd else false) := by
  have hb := h.blk
  have c4 := hb.cell 4
  unfold SkM.cells at hb c4
  have hcs : x.part = 0 ∨ x.part = 1 ∨ x.part = 2 ∨ x.part = 3 ∨ x.part = 4 := by omega
  rcases hcs with e | e | e | e | e
  · rw [e] at hb
    simp only [if_pos e]
    exact skEnd_yes hb
  all_goals
    rw [e] at c4
    simp only [if_neg (show ¬ x.part = 0 by omega)]
    exact skEnd_no c4
theorem SkAt.cell4 (h : SkAt Q w0 w gm gs gl dv pv th head key x s) : w.cell? ⟨gs, 4, none⟩ = some (nxSk x.part gs) := h.blk.cell 4
end
section
variable {B : Nat} {w w' : World} {g : Nat} {R : RefB} {rv : Value} {gq : Nat} {st st' : MSt} {t s l b : Nat} {th head key : Int} {r : RSk}
end
end Go.Proofs.YtolengkegjipaaaGreat

