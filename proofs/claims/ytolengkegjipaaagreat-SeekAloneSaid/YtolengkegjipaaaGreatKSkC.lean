/- The document's Seek: its cells, its beginning, how it goes on. Conditions: those that each theorem names. -/
import Derived.Test.YtolengkegjipaaaGreatKSkB
import Derived.Test.YtolengkegjipaaaGreatKLkB
import Derived.Test.YtolengkegjipaaaGreatKAt
import Derived.Deep.RegionHeld3
namespace Go.Proofs.YtolengkegjipaaaGreat
open Go.ChangeShapes Go.WideShapes Go.ChangeAt Go.RowKit
set_option linter.unusedVariables false
def rsC (t s l b : Nat) (th head key line : Int) (rp sp : Option Addr) (fnd : Bool) (prev word came curr link whn : Int) : List Value := [.int .i64 t, .int .i64 s, .int .i64 l, .int .i64 b, .int .i64 th, .int .i64 head, .int .u32 key, .int .i64 line, .pointer rp, .pointer sp, .bool fnd, .int .i64 prev, .int .u64 word, .int .i64 came, .int .i64 curr, .int .u64 link, .int .i64 whn]
def rr0 : RLr := ⟨1, 0, 0, -1⟩
/-- Where a slot's link lies, and its key. -/
theorem rNext_ok {t s l b : Nat} (c : CfgN t s l b) (n : Int) (w : World) :
    Calls Tryz.prog 11 #[.agg #[.int .i64 t, .int .i64 s, .int .i64 l, .int .i64 b], .int .i64 n] w fun e w' => e = .returned (.int .i64 (nxtN (layF t s l b) n)) ∧ Ext w w' := by
  have HA := Lib.hid (fun W => at_any t s l b 12 n 0 W c.t1 c.s1 c.s0 c.l1 c.b1 (by decide) (by decide) (fun _ => rfl) (fun h => by omega))
  have e1 : toldF (layF t s l b) 12 n 0 = nxtN (layF t s l b) n := rfl
  rw [e1] at HA
  have X0 := Lib.hid ((Ext.refl w).alloc (.cells #[.int .i64 t, .int .i64 s, .int .i64 l, .int .i64 b] 23))
  generalize nxtN (layF t s l b) n = a at *
  clear e1 c
  go_enter Tryz.func11, Tryz.ntmps11
  go_wp2_with fail
  refine (HA.out _).mono ?_
  rintro e w1 ⟨rfl, x1⟩
  have X1 := Lib.hid (X0.out.trans x1)
  clear x1
  go_wp2_with fail
  go_ret
  exact ⟨rfl, X1.out⟩
theorem rKeyAt_ok {t s l b : Nat} (c : CfgN t s l b) (n : Int) (w : World) :
    Calls Tryz.prog 20 #[.agg #[.int .i64 t, .int .i64 s, .int .i64 l, .int .i64 b], .agg #[.int .i64 10, .int .i64 n, .int .i64 0]] w fun e w' => e = .returned (.int .i64 (keyN (layF t s l b) n)) ∧ Ext w w' :=
  at_any t s l b 10 n 0 w c.t1 c.s1 c.s0 c.l1 c.b1 (by decide) (by decide) (fun _ => rfl) (fun h => by omega)
section
variable {w w' : World} {gq g : Nat} {t s l b : Nat} {th head key line : Int} {rp sp : Option Addr} {fnd : Bool} {prev word came curr link whn : Int}
end
end Go.Proofs.YtolengkegjipaaaGreat


/- The document's Seek: its lines, each by what its callees leave. Conditions: those that each theorem names. -/
namespace Go.Proofs.YtolengkegjipaaaGreat
open Go.ChangeShapes Go.WideShapes Go.ChangeAt Go.RowKit
set_option linter.unusedVariables false
section
variable {w w' : World} {gq g gr gp : Nat} {t s l b : Nat} {th head key line : Int} {rp sp : Option Addr} {fnd : Bool} {prev word came curr link whn : Int} {P G : World → Prop} {ln got wd wh av old nw wr : Int} {put : Bool}
end
end Go.Proofs.YtolengkegjipaaaGreat


/- The document's Seek: its lines 3 and 4, each by what its callees leave. Conditions: those that each theorem names. -/
namespace Go.Proofs.YtolengkegjipaaaGreat
open Go.ChangeShapes Go.WideShapes Go.ChangeAt Go.RowKit
set_option linter.unusedVariables false
section
variable {w w' : World} {gq g gr gp : Nat} {t s l b : Nat} {th head key line : Int} {rp sp : Option Addr} {fnd : Bool} {prev word came curr link whn : Int} {P G : World → Prop} {ln got wd wh av old nw wr : Int} {put : Bool} {B : Nat} {R : RefB} {rv : Value} {st : MSt}
end
end Go.Proofs.YtolengkegjipaaaGreat

