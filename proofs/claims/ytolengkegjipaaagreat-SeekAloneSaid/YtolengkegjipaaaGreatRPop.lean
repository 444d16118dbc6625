/- The document's Pop and Push, each step. Conditions: those that each theorem names. -/
import Derived.Test.YtolengkegjipaaaGreatKFreeB
import Derived.Test.YtolengkegjipaaaGreatKMemC
import Derived.Deep.RegionHeld3
import Derived.Deep.DeepCutAuto
namespace Go.Proofs.YtolengkegjipaaaGreat
open Go.ChangeShapes Go.WideShapes Go.ChangeAt Go.RowKit
set_option linter.unusedVariables false
/-- The document's memory, and a block beside it that a machine of the document has. -/
structure RG (B : Nat) (w0 w : World) (g : Nat) (R : RefB) (rv : Value) (gq : Nat) (T : TypeId) (cs : List Value) (st : MSt) : Prop where
  ref : IsRMem B w g R rv st
  blk : Blk w gq T cs
  fr : Fr (fun b => rfoot g R rv b ∨ b = gq) w0 w
  off : ¬ rfoot g R rv gq
section
variable {B : Nat} {w0 w w' : World} {g : Nat} {R : RefB} {rv : Value} {gq : Nat} {T : TypeId} {cs : List Value} {st st' : MSt}
theorem RG.of (h : IsRMem B w g R rv st) (hb : Blk w gq T cs) (ho : ¬ rfoot g R rv gq) : RG B w w g R rv gq T cs st := ⟨h, hb, Fr.refl _ _, ho⟩
theorem RG.ext (h : RG B w0 w g R rv gq T cs st) (x : Ext w w') : RG B w0 w' g R rv gq T cs st := ⟨h.ref.ext x, h.blk.ext x, h.fr.then_ext x, h.off⟩
theorem RG.put (h : RG B w0 w g R rv gq T cs st) (i : Nat) (v : Value) : RG B w0 (w.setCell ⟨gq, i, none⟩ v) g R rv gq T (cs.set i v) st := by
  have f : Fr (fun b => b = gq) w (w.setCell ⟨gq, i, none⟩ v) := Fr.setCell (S := fun b => b = gq) (p := ⟨gq, i, none⟩) (Fr.refl _ w) (Or.inl rfl) _
  exact ⟨h.ref.fr f (fun b hb hs => h.off (hs ▸ hb)), h.blk.set i v, h.fr.trans f (fun b _ hb => Or.inr hb), h.off⟩
end
/-- The document's machine: its line, the top and the word behind it that were loaded, its slot. -/
structure RPo where
  line : Int
  top : Int
  nx : Int
  slot : Int
def RPo.cells (r : RPo) (t s l b tn : Int) : List Value := [.int .i64 t, .int .i64 s, .int .i64 l, .int .i64 b, .int .i64 tn, .int .i64 r.line, .int .u64 r.top, .int .u64 r.nx, .int .i64 r.slot]
structure RPo.Wf (r : RPo) : Prop where
  line : r.line = 0 ∨ r.line = 1 ∨ r.line = 2 ∨ r.line = 3
  top : W64 r.top
  nx : W64 r.nx
section
variable {B : Nat} {w : World} {g : Nat} {R : RefB} {rv : Value} {gq : Nat} {st : MSt} {t s l b : Nat} {tn : Int} {r : RPo}
end
end Go.Proofs.YtolengkegjipaaaGreat

