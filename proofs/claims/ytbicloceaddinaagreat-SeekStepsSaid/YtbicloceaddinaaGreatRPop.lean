/- The document's Pop and Push, each step. Conditions: those that each theorem names. -/
import Derived.Test.YtbicloceaddinaaGreatKFreeB
import Derived.Test.YtbicloceaddinaaGreatKMemC
import Derived.Deep.RegionHeld3
import Derived.Deep.DeepCutAuto
namespace Go.Proofs.YtbicloceaddinaaGreat
open Go.ChangeShapes Go.WideShapes Go.ChangeAt Go.RowKit
set_option linter.unusedVariables false
/-- The document's memory, and a block beside it that a machine of the document has. -/
structure RG (B : Nat) (w0 w : World) (g : Nat) (R : RefB) (rv : Value) (gq : Nat) (T : TypeId) (cs : List Value) (st : MSt) : Prop where
  ref : IsRMem B w g R rv st
  blk : Blk w gq T cs
  fr : Fr (fun b => rfoot g R rv b ∨ b = gq) w0 w
  off : ¬ rfoot g R rv gq
section
variable {B : Nat} {w0 w w' : World} {g : Nat} {R : RefB} {rv : Value} {gq : Nat} {T : TypeId} {cs : List Value} {st st' : MSt}
theorem RG.of (h : IsRMem B w g R rv st) (hb : Blk w gq T cs) (ho : ¬ rfoot g R rv gq) : RG B w w g R rv gq T cs st := ⟨h, hb, Fr.refl _ _, ho⟩
theorem RG.ext (h : RG B w0 w g R rv gq T cs st) (x : Ext w w') : RG B w0 w' g R rv gq T cs st := ⟨h.ref.ext x, h.blk.ext x, h.fr.then_ext x, h.off⟩
theorem RG.to (h : RG B w0 w g R rv gq T cs st) (r : IsRMem B w' g R rv st') (f : Fr (rfoot g R rv) w w') : RG B w0 w' g R rv gq T cs st' :=
  ⟨r, h.blk.fr f h.off, h.fr.trans f (fun b _ hb => Or.inl hb), h.off⟩
theorem RG.put (h : RG B w0 w g R rv gq T cs st) (i : Nat) (v : Value) : RG B w0 (w.setCell ⟨gq, i, none⟩ v) g R rv gq T (cs.set i v) st := by
  have f : Fr (fun b => b = gq) w (w.setCell ⟨gq, i, none⟩ v) := Fr.setCell (S := fun b => b = gq) (p := ⟨gq, i, none⟩) (Fr.refl _ w) (Or.inl rfl) _
  exact ⟨h.ref.fr f (fun b hb hs => h.off (hs ▸ hb)), h.blk.set i v, h.fr.trans f (fun b _ hb => Or.inr hb), h.off⟩
/-- What an access tells. -/
theorem load_tells (s : MSt) (t a : Int) : ∃ (k t' a' n : Int) (d : Bool), accV (s.load t a).last = .agg #[.int .i64 k, .int .i64 t', .int .i64 a', .int .u64 (peekV s a), .int .u64 n, .bool d] := by
  unfold MSt.load
  by_cases hp : peekB s a = true
  · rw [if_pos hp]
    exact ⟨1, t, a, 0, true, rfl⟩
  · rw [if_neg hp]
    have h0 : peekV s a = 0 := peekV_no (by simpa using hp)
    rw [h0]
    exact ⟨1, t, a, 0, false, rfl⟩
theorem swap_tells (s : MSt) (t a o x : Int) : ∃ (k t' a' y n : Int), accV (s.swap t a o x).last = .agg #[.int .i64 k, .int .i64 t', .int .i64 a', .int .u64 y, .int .u64 n, .bool (swapB s a o)] := by
  unfold MSt.swap swapB
  by_cases hp : peekB s a = true
  · rw [if_pos hp, hp]
    by_cases e : peekV s a = o
    · rw [if_pos e]
      exact ⟨3, t, a, peekV s a, x, by simp [accV, MSt.note, e]⟩
    · rw [if_neg e]
      exact ⟨3, t, a, peekV s a, x, by simp [accV, MSt.note, e]⟩
  · have hq : peekB s a = false := by simpa using hp
    rw [if_neg hp, hq]
    exact ⟨3, t, a, 0, x, rfl⟩
end
/-- The document's machine: its line, the top and the word behind it that were loaded, its slot. -/
structure RPo where
  line : Int
  top : Int
  nx : Int
  slot : Int
def RPo.cells (r : RPo) (t s l b tn : Int) : List Value := [.int .i64 t, .int .i64 s, .int .i64 l, .int .i64 b, .int .i64 tn, .int .i64 r.line, .int .u64 r.top, .int .u64 r.nx, .int .i64 r.slot]
structure RPo.Wf (r : RPo) : Prop where
  line : r.line = 0 ∨ r.line = 1 ∨ r.line = 2 ∨ r.line = 3
  top : W64 r.top
  nx : W64 r.nx
def rpopS (F : Nat → Int) (tn : Int) (r : RPo) (st : MSt) : RPo × MSt :=
  if r.line = 1 then (⟨if toN (peekV st (-2)) < 0 then 0 else 2, peekV st (-2), r.nx, r.slot⟩, st.load tn (-2))
  else if r.line = 2 then (⟨3, r.top, peekV st (aft F (toN r.top)), r.slot⟩, st.load tn (aft F (toN r.top)))
  else if r.line = 3 then (if swapB st (-2) r.top = true then ⟨0, r.top, r.nx, toN r.top⟩ else ⟨1, r.top, r.nx, r.slot⟩, st.swap tn (-2) r.top (topN (toN r.nx) (ver1 r.top)))
  else (r, st)
theorem fldA3 (k t a y n : Int) (d : Bool) (w : World) : (Instr.field 116 (.agg #[.int .i64 k, .int .i64 t, .int .i64 a, .int .u64 y, .int .u64 n, .bool d]) 3).run Tryz.prog w = .ok (.int .u64 y) w := by kernel_rfl
theorem fldA5 (k t a y n : Int) (d : Bool) (w : World) : (Instr.field 116 (.agg #[.int .i64 k, .int .i64 t, .int .i64 a, .int .u64 y, .int .u64 n, .bool d]) 5).run Tryz.prog w = .ok (.bool d) w := by kernel_rfl
section
variable {B : Nat} {w : World} {g : Nat} {R : RefB} {rv : Value} {gq : Nat} {st : MSt} {t s l b : Nat} {tn : Int} {r : RPo}
def RPost (B : Nat) (w : World) (g : Nat) (R : RefB) (rv : Value) (gq : Nat) (T : TypeId) (cs : List Value) (st : MSt) (e : Ending) (w' : World) : Prop := (∃ u, e = .returned u) ∧ RG B w w' g R rv gq T cs st
end
end Go.Proofs.YtbicloceaddinaaGreat

