/- Package free: the slots of the free list, and the document's. Conditions: those that each theorem names. -/
import Derived.Test.YtbicloceaddinaaGreatKFreeA
import Derived.Test.YtbicloceaddinaaGreatKGr
import Derived.Test.YtbicloceaddinaaGreatKAt
namespace Go.Proofs.YtbicloceaddinaaGreat
open Go.ChangeShapes Go.WideShapes Go.ChangeAt Go.RowKit
set_option linter.unusedVariables false
/-- The slots met so far. -/
structure Met (n : Nat) (out : List Int) : Prop where
  nd : out.Nodup
  rng : ∀ x ∈ out, 0 ≤ x ∧ x < (n : Int)
theorem Met.on {n : Nat} {out : List Int} {cur : Int} (h : Met n out) (h0 : ¬ cur < 0) (h2 : ¬ ((n : Int) ≤ cur ∨ cur ∈ out)) : Met n (out ++ [cur]) := by
  have h3 : ¬ (n : Int) ≤ cur := fun e => h2 (Or.inl e)
  have h4 : cur ∉ out := fun e => h2 (Or.inr e)
  refine ⟨List.nodup_append.2 ⟨h.nd, by simp, fun a ha b hb => ?_⟩, fun x hx => ?_⟩
  · have : b = cur := by simpa using hb
    rw [this]
    exact fun e => h4 (by rw [← e]; exact ha)
  · rcases List.mem_append.1 hx with hx | hx
    · exact h.rng x hx
    · have : x = cur := by simpa using hx
      rw [this]
      omega
section
variable {Q : Nat → Prop} {wb w0 w : World} {gm gl : Nat} {dv pv : Value} {s : MSt} {F : Nat → Int}
end
end Go.Proofs.YtbicloceaddinaaGreat


/- The document's slots of the free list. Conditions: those that each theorem names. -/
namespace Go.Proofs.YtbicloceaddinaaGreat
open Go.ChangeShapes Go.WideShapes Go.ChangeAt Go.RowKit
set_option linter.unusedVariables false
/-- A config of a ground, in bounds. -/
structure CfgN (t s l b : Nat) : Prop where
  t1 : t ≤ 12
  s1 : s ≤ 60
  s0 : 1 ≤ s
  l1 : l ≤ 64
  b1 : b ≤ 64
theorem rafter_ok {t s l b : Nat} (c : CfgN t s l b) (n : Int) (w : World) :
    Calls Tryz.prog 190 #[.agg #[.int .i64 t, .int .i64 s, .int .i64 l, .int .i64 b], .int .i64 n] w fun e w' => e = .returned (.int .i64 (aft (layF t s l b) n)) ∧ Ext w w' := by
  have HA := Lib.hid (fun W => at_any t s l b 17 n 0 W c.t1 c.s1 c.s0 c.l1 c.b1 (by decide) (by decide) (fun _ => rfl) (fun h => by omega))
  have e1 : toldF (layF t s l b) 17 n 0 = aft (layF t s l b) n := rfl
  rw [e1] at HA
  have X0 := Lib.hid ((Ext.refl w).alloc (.cells #[.int .i64 t, .int .i64 s, .int .i64 l, .int .i64 b] 23))
  generalize aft (layF t s l b) n = a at *
  clear e1 c
  go_enter Tryz.func190, Tryz.ntmps190
  go_wp2_with fail
  refine (HA.out _).mono ?_
  rintro e w1 ⟨rfl, x1⟩
  have X1 := Lib.hid (X0.out.trans x1)
  clear x1
  go_wp2_with fail
  go_ret
  exact ⟨rfl, X1.out⟩
end Go.Proofs.YtbicloceaddinaaGreat


/- Grounds that are made of a list of slots. Conditions: those that each theorem names. -/
namespace Go.Proofs.YtbicloceaddinaaGreat
open Go.ChangeShapes Go.WideShapes Go.ChangeAt Go.RowKit
set_option linter.unusedVariables false
def flatQ : List Put → List Value
  | [] => []
  | p :: l => [Value.int .i64 p.1, .int .u64 p.2] ++ flatQ l
/-- A row of puts of the call's own. -/
def PutRow (w : World) (B : Nat) (v : Value) (ys : List Put) : Prop := w.ownsRow B 114 2 v ys.length (flatQ ys)
theorem owns_keep9 {w w' : World} {B : Nat} {e : TypeId} {size n : Nat} {v : Value} {xs : List Value} (h : w.ownsRow B e size v n xs) (hk : ∀ g, v.ownBlock = some g → w'.heap[g]? = w.heap[g]?) : w'.ownsRow B e size v n xs := by
  refine ⟨h.1, ?_⟩
  rcases h.2 with h2 | ⟨g, cap, cur, hv, hg, hh, r⟩
  · exact Or.inl h2
  · refine Or.inr ⟨g, cap, cur, hv, hg, ?_, r⟩
    rw [hk g (by rw [hv]; rfl)]; exact hh
theorem PutRow.ext {w w' : World} {B : Nat} {v : Value} {ys : List Put} (h : PutRow w B v ys) (x : Ext w w') : PutRow w' B v ys := owns_keep9 h (fun g hg => x.block g (World.ownsRow.lt h g hg).2)
theorem PutRow.far {w : World} {B : Nat} {v : Value} {ys : List Put} (h : PutRow w B v ys) {p : Addr} (hp : v.ownBlock ≠ some p.block) (u : Value) : PutRow (w.setCell p u) B v ys := owns_keep9 h (fun g hg => Below.heap_setCell w p u g (fun e => hp (by rw [hg, e])))
end Go.Proofs.YtbicloceaddinaaGreat


/- Package free: machines that are made, their steps as one, and the page's example reckoned. Conditions: those that each theorem names. -/
namespace Go.Proofs.YtbicloceaddinaaGreat
open Go.ChangeShapes Go.WideShapes Go.ChangeAt Go.RowKit
set_option linter.unusedVariables false
def NewM (T : TypeId) (w : World) (gl : Nat) (t y : Int) (e : Ending) (w' : World) : Prop := ∃ g, e = .returned (.pointer (some ⟨g, 0, none⟩)) ∧ w.heap.size ≤ g ∧ Blk w' g T (fcells gl t 0 0 false y) ∧ Ext w w'
theorem newPush_ok (w : World) (gl : Nat) (t y : Int) : Calls Tryz.prog 188 #[.pointer (some ⟨gl, 0, none⟩), .int .i64 t, .int .i64 y] w (NewM 259 w gl t y) := by
  go_enter Tryz.func188, Tryz.ntmps188
  go_wp2_with fail
  go_ret
  exact ⟨w.heap.size, rfl, Nat.le_refl _, Blk.new w _ _, (Ext.refl w).alloc _⟩
/-- A machine: which part comes next, the top that was loaded, a slot, whether it is done. -/
structure PMs where
  part : Int
  top : Int
  y : Int
  dn : Bool
deriving DecidableEq
def PMs.cells (x : PMs) (gl : Nat) (t : Int) : List Value := fcells gl t x.part x.top x.dn x.y
structure PMs.Wf (x : PMs) : Prop where
  part : x.part = 0 ∨ x.part = 1 ∨ x.part = 2
  top : W64 x.top
  y : I64 x.y
def popS (F : Nat → Int) (t : Int) (x : PMs) (s : MSt) : PMs × MSt :=
  if x.dn = true then (x, s)
  else if x.part = 0 then (⟨1, peekV s (-2), x.y, toN (peekV s (-2)) == -1⟩, s.load t (-2))
  else if x.part = 1 then (⟨2, x.top, toN (peekV s (aft F (toN x.top))), false⟩, s.load t (aft F (toN x.top)))
  else (⟨0, x.top, x.y, swapB s (-2) x.top⟩, s.swap t (-2) x.top (topN x.y (ver1 x.top)))
def pushS (F : Nat → Int) (t : Int) (x : PMs) (s : MSt) : PMs × MSt :=
  if x.dn = true then (x, s)
  else if x.part = 0 then (⟨1, peekV s (-2), x.y, false⟩, s.load t (-2))
  else if x.part = 1 then (⟨2, x.top, x.y, false⟩, s.store t (aft F x.y) (toN x.top + 1))
  else (⟨0, x.top, x.y, swapB s (-2) x.top⟩, s.swap t (-2) x.top (topN x.y (ver1 x.top)))
section
variable {Q : Nat → Prop} {w0 w : World} {gm gp gl : Nat} {dv pv : Value} {s : MSt} {F : Nat → Int} {t : Int} {x : PMs}
theorem pushStep_ok (h : IsMem Q w w0 w gm dv pv s) (hc : Calm s) (ok : Okay F) (hx : x.Wf) (hb : Blk w gp 259 (x.cells gl t)) (hl : Blk w gl 173 (cellsF F)) (hF : F 22 = -2) (qp : Q gp) (ql : Q gl) (p0 : w0.heap.size ≤ gp) :
    Calls Tryz.prog 189 #[.pointer (some ⟨gp, 0, none⟩), .pointer (some ⟨gm, 0, none⟩)] w (StepPost Q w0 w gm gp 259 dv pv (pushS F t x s).2 (pushS F t x s).1.dn ((pushS F t x s).1.cells gl t)) := by
  obtain ⟨part, top, y, dn⟩ := x
  obtain ⟨hp, ht, hy⟩ := hx
  simp only at hp ht hy
  cases dn
  · rcases hp with rfl | rfl | rfl
    · exact pushStep_0 h hc ok ht hb hl hF qp ql p0
    · exact pushStep_1 h hc ok ht hb hl hF qp ql p0
    · exact pushStep_2 h hc ok ht hb hl hF qp ql p0 hy
  · exact pushStep_done h hc ok ht hb hl hF qp ql p0
end
end Go.Proofs.YtbicloceaddinaaGreat


/- The page's example of layer 9. Conditions: none. -/
namespace Go.Proofs.YtbicloceaddinaaGreat
open Go.ChangeShapes Go.WideShapes Go.ChangeAt Go.RowKit
set_option linter.unusedVariables false
end Go.Proofs.YtbicloceaddinaaGreat

