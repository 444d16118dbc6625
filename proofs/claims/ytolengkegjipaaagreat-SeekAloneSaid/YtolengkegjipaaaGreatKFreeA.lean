/- Package free: what both machines do: the top is loaded, and swapped. Conditions: those that each theorem names. -/
import Derived.Test.YtolengkegjipaaaGreatKBase
import Derived.Test.YtolengkegjipaaaGreatLay9
import Derived.Test.YtolengkegjipaaaGreatKPmX
import Derived.Deep.RegionHeld3
namespace Go.Proofs.YtolengkegjipaaaGreat
open Go.ChangeShapes Go.WideShapes Go.ChangeAt Go.RowKit
set_option linter.unusedVariables false
/-- A number of a word of 64 bits. -/
def W64 (x : Int) : Prop := 0 ≤ x ∧ x < 18446744073709551616
def I64 (x : Int) : Prop := -9223372036854775808 ≤ x ∧ x < 9223372036854775808
/-- The slot that a word tells. -/
def toN (x : Int) : Int := x % 4294967296 - 1
theorem toN_rng {x : Int} (h : W64 x) : -1 ≤ toN x ∧ toN x < 4294967295 := by unfold toN; have := h.1; omega
section
variable {Q : Nat → Prop} {wb w0 w w' : World} {gm : Nat} {dv pv : Value} {s : MSt}
theorem lim_at {l : List Int} {m : Int} (h : Lim l m) (hm : 0 < m) (i : Nat) : 0 ≤ l.getD i 0 ∧ l.getD i 0 < m := by
  by_cases hi : i < l.length
  · exact h i hi
  · rw [List.getD_eq_getElem?_getD, List.getElem?_eq_none (by omega)]
    exact ⟨Int.le_refl _, hm⟩
theorem IsMem.seenLim (h : IsMem Q wb w0 w gm dv pv s) : Lim s.dev.seen 18446744073709551616 := by
  obtain ⟨D, -, hd, -⟩ := h.dev
  exact hd.ls
theorem IsMem.peekU (h : IsMem Q wb w0 w gm dv pv s) (a : Int) : W64 (peekV s a) := by
  unfold peekV
  split
  · unfold loadV
    first | exact lim_at h.seenLim (by decide) _ | (split <;> first | exact lim_at h.seenLim (by decide) _ | exact ⟨Int.le_refl _, by decide⟩)
  · exact lim_at h.ll (by decide) _
end
/-- The cells of a machine: where, thread, part, top, done; and one of the Pop's, or the Push's, own. -/
def fcells (gl : Nat) (t part top : Int) (dn : Bool) (y : Int) : List Value := [.pointer (some ⟨gl, 0, none⟩), .int .i64 t, .int .i64 part, .int .u64 top, .bool dn, .int .i64 y]
section
variable {Q : Nat → Prop} {w0 w : World} {gm gp gl : Nat} {T : TypeId} {dv pv : Value} {s : MSt} {F : Nat → Int} {t part top y : Int} {dn : Bool}
end
end Go.Proofs.YtolengkegjipaaaGreat


/- Package free: each step of a Pop and of a Push. Conditions: those that each theorem names. -/
namespace Go.Proofs.YtolengkegjipaaaGreat
open Go.ChangeShapes Go.WideShapes Go.ChangeAt Go.RowKit
set_option linter.unusedVariables false
theorem IsMem.here {Q : Nat → Prop} {wb w0 w : World} {gm : Nat} {dv pv : Value} {s : MSt} (m : IsMem Q wb w0 w gm dv pv s) : IsMem Q w w0 w gm dv pv s :=
  m.fr (S := fun _ => False) m.lt.1 (Fr.refl _ w) (fun _ hs => hs.elim) (fun _ _ => rfl)
/-- What a machine's step leaves. -/
def StepPost (Q : Nat → Prop) (w0 w : World) (gm gp : Nat) (T : TypeId) (dv pv : Value) (s' : MSt) (r : Bool) (cs : List Value) (e : Ending) (w' : World) : Prop :=
  e = .returned (.bool r) ∧ IsMem Q w' w0 w' gm dv pv s' ∧ Blk w' gp T cs ∧ (∀ b, Q b → b ≠ gp → w'.heap[b]? = w.heap[b]?)
theorem i64w (x : Int) (h0 : -9223372036854775808 ≤ x) (h1 : x < 9223372036854775808) : IntKind.i64.wrap x = x := by
  unfold IntKind.wrap
  simp [IntKind.signed, IntKind.bits]
  omega
theorem u64w (x : Int) (h0 : 0 ≤ x) (h1 : x < 18446744073709551616) : IntKind.u64.wrap x = x := by
  unfold IntKind.wrap
  simp [IntKind.signed, IntKind.bits]
  omega
section
variable {Q : Nat → Prop} {w0 w : World} {gm gp gl : Nat} {dv pv : Value} {s : MSt} {F : Nat → Int} {t part top y : Int}
end
section
variable {Q : Nat → Prop} {w0 w : World} {gm gp gl : Nat} {dv pv : Value} {s : MSt} {F : Nat → Int} {t part top y : Int}
end
end Go.Proofs.YtolengkegjipaaaGreat

