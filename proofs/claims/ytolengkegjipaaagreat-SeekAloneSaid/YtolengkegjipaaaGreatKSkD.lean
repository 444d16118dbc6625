/- The document's Seek: its line 4, by what its callees leave. Conditions: those that each theorem names. -/
import Derived.Test.YtolengkegjipaaaGreatKSkC
namespace Go.Proofs.YtolengkegjipaaaGreat
open Go.ChangeShapes Go.WideShapes Go.ChangeAt Go.RowKit
set_option linter.unusedVariables false
section
variable {w w' : World} {gq g gr gp : Nat} {t s l b : Nat} {th head key line : Int} {rp sp : Option Addr} {fnd : Bool} {prev word came curr link whn : Int} {P : World → Prop} {ln got wd wh av : Int} {B : Nat} {R : RefB} {rv : Value} {st : MSt}
end
end Go.Proofs.YtolengkegjipaaaGreat


/- A Seek of the program beside the document's: what a step leaves of both. Conditions: those that each theorem names. -/
namespace Go.Proofs.YtolengkegjipaaaGreat
open Go.ChangeShapes Go.WideShapes Go.ChangeAt Go.RowKit
set_option linter.unusedVariables false
/-- The document's Seek, with its Read (where it is in, or done and still asked), or its Set. -/
structure RSk where
  line : Int
  prev : Int
  word : Int
  came : Int
  curr : Int
  link : Int
  whn : Int
  rp : Option Addr
  sp : Option Addr
  fnd : Bool
  rd : Option (Nat × Int × RLr)
  ps : Option (Nat × RLs)
def RSk.cells (r : RSk) (t s l b : Nat) (th head key : Int) : List Value := rsC t s l b th head key r.line r.rp r.sp r.fnd r.prev r.word r.came r.curr r.link r.whn
def RSk.ownB (r : RSk) (b : Nat) : Prop := (∃ q, r.rd = some q ∧ b = q.1) ∨ ∃ q, r.ps = some q ∧ b = q.1
def RSk.on (F : Nat → Int) (r : RSk) (v u : Int) (n : Nat) : RSk :=
  if toN v < 0 then ⟨0, r.prev, v, u, toN v, 0, u, r.rp, r.sp, r.fnd, none, none⟩
  else ⟨2, r.prev, v, u, toN v, r.link, r.whn, some ⟨n, 0, none⟩, r.sp, r.fnd, some (n, nxtN F (toN v), rr0), none⟩
structure RelK (F : Nat → Int) (head : Int) (x : SkM) (r : RSk) : Prop where
  wf : x.Wf
  line : r.line = (x.part : Int)
  fnd : r.fnd = x.fnd
  nf : x.part ≠ 0 → x.fnd = false
  p1 : x.part = 1 → x.hat = head ∧ r.prev = head
  rd : x.part = 1 ∨ x.part = 2 → ∃ n y n' y', x.rd = some (n, y) ∧ r.rd = some (n', x.hat, y') ∧ r.rp = some ⟨n', 0, none⟩ ∧ RelR y y'
  frm : x.part ≠ 1 → r.prev = x.fat ∧ r.word = x.fwd ∧ r.came = x.fwh ∧ r.curr = toN x.fwd
  hat2 : 2 ≤ x.part → x.hat = nxtN F (toN x.fwd)
  lnk : 3 ≤ x.part ∨ x.part = 0 → r.link = x.hwd
  ps : x.part = 3 → ∃ n y n' y', x.ps = some (n, y) ∧ r.ps = some (n', y') ∧ r.sp = some ⟨n', 0, none⟩ ∧ RelS y y'
  rd4 : x.part = 4 → ∃ n' a y', r.rd = some (n', a, y') ∧ r.rp = some ⟨n', 0, none⟩ ∧ y'.wh = x.hwh
  whn : x.part = 0 → r.whn = if x.fnd = true then x.hwh else x.fwh
theorem RelK.fol {F : Nat → Int} {head : Int} {x : SkM} {r : RSk} {a v u : Int} {n n' : Nat} (hv : W64 v) (hw : (x.fol F a v u n).Wf) (hx : x.fnd = false) (hr : r.fnd = false) (hp : r.prev = a) : RelK F head (x.fol F a v u n) (r.on F v u n') := by
  have h := toN_rng hv
  unfold SkM.fol RSk.on at *
  by_cases e : toN v = -1
  · rw [if_pos e] at hw ⊢
    rw [if_pos (show toN v < 0 by omega)]
    exact ⟨hw, rfl, hr.trans hx.symm, fun hn => absurd rfl hn, fun (e : (0 : Nat) = 1) => absurd e (by decide), fun e => e.elim (fun (e : (0 : Nat) = 1) => absurd e (by decide)) (fun (e : (0 : Nat) = 2) => absurd e (by decide)), fun _ => ⟨hp, rfl, rfl, rfl⟩, fun (e : 2 ≤ (0 : Nat)) => absurd e (by decide), fun _ => rfl, fun (e : (0 : Nat) = 3) => absurd e (by decide), fun (e : (0 : Nat) = 4) => absurd e (by decide), fun _ => by simp only; rw [hx]; rfl⟩
  · rw [if_neg e] at hw ⊢
    rw [if_neg (show ¬ toN v < 0 by omega)]
    exact ⟨hw, rfl, hr.trans hx.symm, fun _ => hx, fun (e : (2 : Nat) = 1) => absurd e (by decide), fun _ => ⟨n, lr0, n', rr0, rfl, rfl, rfl, RelR.zero⟩, fun _ => ⟨hp, rfl, rfl, rfl⟩, fun _ => rfl, fun e => e.elim (fun (e : 3 ≤ (2 : Nat)) => absurd e (by decide)) (fun (e : (2 : Nat) = 0) => absurd e (by decide)), fun (e : (2 : Nat) = 3) => absurd e (by decide), fun (e : (2 : Nat) = 4) => absurd e (by decide), fun (e : (2 : Nat) = 0) => absurd e (by decide)⟩
section
variable {B : Nat} {w w' : World} {g : Nat} {R : RefB} {rv : Value} {gq : Nat} {st : MSt} {t s l b : Nat} {th head key : Int} {x : SkM} {r r' : RSk}
end
end Go.Proofs.YtolengkegjipaaaGreat


/- A step of the document's Seek beside the program's. Conditions: those that each theorem names. -/
namespace Go.Proofs.YtolengkegjipaaaGreat
open Go.ChangeShapes Go.WideShapes Go.ChangeAt Go.RowKit
set_option linter.unusedVariables false
section
variable {B : Nat} {w w' : World} {g : Nat} {R : RefB} {rv : Value} {gq : Nat} {st : MSt} {t s l b : Nat} {th head key : Int} {x : SkM} {r : RSk}
end
end Go.Proofs.YtolengkegjipaaaGreat

