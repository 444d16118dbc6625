/- Layer 8: the six ways in which 'a, x := Apply(s, o)' may be done: each of the two blocks is made ahead of the call, or behind it. Conditions: those that each theorem names. -/
import Derived.Test.YthbngenjcgclgaaMod31
namespace Go.Proofs.Ythbngenjcgclgaa
open Go.ChangeShapes Go.WideShapes Go.ChangeAt Go.RowKit
set_option linter.unusedVariables false
/-- What such a statement leaves: the two blocks, and what stays whatever becomes of two old ones. -/
def RegPost (gr gt : Nat) (w wx : World) (ga gx : Nat) (c0 c1 c2 p0 p1 : Value) (P : World → Prop) : Prop :=
  ga ≠ gx ∧ w.heap.size ≤ ga ∧ w.heap.size ≤ gx ∧ (wx.cell? ⟨ga, 0, none⟩ = some c0 ∧ wx.cell? ⟨ga, 1, none⟩ = some c1 ∧ wx.cell? ⟨ga, 2, none⟩ = some c2) ∧ (wx.cell? ⟨gx, 0, none⟩ = some p0 ∧ wx.cell? ⟨gx, 1, none⟩ = some p1) ∧ (∀ w'', Fr (fun q => q = gr ∨ q = gt) wx w'' → P w'') ∧ Ext w wx
section
variable {w w6 : World} {gr gt : Nat} {c0 c1 c2 p0 p1 u0 u1 u2 v0 v1 : Value} {P : World → Prop} {S6 : Nat → Prop}
theorem blk_newR (w : World) (o : Obj) (t : TypeId) (cs : List Value) : Blk ((w.alloc o).alloc (.cells cs.toArray t)) (w.heap.size + 1) t cs := by
  have := Blk.new (w.alloc o) t cs
  rwa [show (w.alloc o).heap.size = w.heap.size + 1 by simp] at this
theorem regEnd {wx : World} {ga gx : Nat} {tS tR : TypeId} (hne : ga ≠ gx) (h1 : w.heap.size ≤ ga) (h2 : w.heap.size ≤ gx) (bs : Blk wx ga tS [c0, c1, c2]) (br : Blk wx gx tR [p0, p1])
    (s6 : ∀ w'', Fr S6 w6 w'' → P w'') (f : Fr S6 w6 wx) (hS : ∀ q, q = gr ∨ q = gt → S6 q) (x : Ext w wx) : RegPost gr gt w wx ga gx c0 c1 c2 p0 p1 P :=
  ⟨hne, h1, h2, ⟨bs.cell 0, bs.cell 1, bs.cell 2⟩, ⟨br.cell 0, br.cell 1⟩, fun w9 f9 => s6 w9 (f.trans f9 fun q _ hq => hS q hq), x⟩
theorem way1 (x6 : Ext w.drew w6) (s6 : ∀ w'', Fr S6 w6 w'' → P w'') (hS : ∀ q, q = gr ∨ q = gt → S6 q) :
    RegPost gr gt w ((w6.alloc (.cells #[c0, c1, c2] 25)).alloc (.cells #[p0, p1] 34)) w6.heap.size (w6.heap.size + 1) c0 c1 c2 p0 p1 P := by
  have xe : Ext w6 ((w6.alloc (.cells [c0, c1, c2].toArray 25)).alloc (.cells [p0, p1].toArray 34)) := ((Ext.refl w6).alloc _).alloc _
  have x0 : Ext w w6 := (Ext.refl w).drew.trans x6
  have hs := x0.size
  exact regEnd (tS := 25) (tR := 34) (by omega) hs (by omega) ((Blk.new w6 25 [c0, c1, c2]).ext ((Ext.refl _).alloc _)) (blk_newR w6 _ 34 [p0, p1]) s6 (Fr.of_ext xe) hS (x0.trans xe)
theorem way2 (x6 : Ext w.drew w6) (s6 : ∀ w'', Fr S6 w6 w'' → P w'') (hS : ∀ q, q = gr ∨ q = gt → S6 q) :
    RegPost gr gt w ((w6.alloc (.cells #[p0, p1] 34)).alloc (.cells #[c0, c1, c2] 25)) (w6.heap.size + 1) w6.heap.size c0 c1 c2 p0 p1 P := by
  have xe : Ext w6 ((w6.alloc (.cells [p0, p1].toArray 34)).alloc (.cells [c0, c1, c2].toArray 25)) := ((Ext.refl w6).alloc _).alloc _
  have x0 : Ext w w6 := (Ext.refl w).drew.trans x6
  have hs := x0.size
  exact regEnd (tS := 25) (tR := 34) (by omega) (by omega) hs (blk_newR w6 _ 25 [c0, c1, c2]) ((Blk.new w6 34 [p0, p1]).ext ((Ext.refl _).alloc _)) s6 (Fr.of_ext xe) hS (x0.trans xe)
theorem fr3 {g : Nat} (h : S6 g) (a b c : Value) : Fr S6 w6 (((w6.setCell ⟨g, 0, none⟩ a).setCell ⟨g, 1, none⟩ b).setCell ⟨g, 2, none⟩ c) :=
  (((Fr.refl S6 w6).setCell (p := ⟨g, 0, none⟩) (Or.inl h) a).setCell (p := ⟨g, 1, none⟩) (Or.inl h) b).setCell (p := ⟨g, 2, none⟩) (Or.inl h) c
theorem fr2 {g : Nat} (h : S6 g) (a b : Value) : Fr S6 w6 ((w6.setCell ⟨g, 0, none⟩ a).setCell ⟨g, 1, none⟩ b) :=
  ((Fr.refl S6 w6).setCell (p := ⟨g, 0, none⟩) (Or.inl h) a).setCell (p := ⟨g, 1, none⟩) (Or.inl h) b
theorem way3 (x6 : Ext (w.alloc (.cells #[u0, u1, u2] 25)).drew w6) (s6 : ∀ w'', Fr S6 w6 w'' → P w'') (hS : ∀ q, q = gr ∨ q = gt → S6 q) (hn : S6 w.heap.size) :
    RegPost gr gt w ((((w6.setCell ⟨w.heap.size, 0, none⟩ c0).setCell ⟨w.heap.size, 1, none⟩ c1).setCell ⟨w.heap.size, 2, none⟩ c2).alloc (.cells #[p0, p1] 34)) w.heap.size w6.heap.size c0 c1 c2 p0 p1 P := by
  have x0 : Ext (w.alloc (.cells [u0, u1, u2].toArray 25)) w6 := (Ext.refl _).drew.trans x6
  have xw : Ext w w6 := ((Ext.refl w).alloc _).trans x0
  have hs : w.heap.size + 1 ≤ w6.heap.size := by have := x0.size; simpa using this
  have b0 := (Blk.new w 25 [u0, u1, u2]).ext x0
  have b1 := ((b0.set 0 c0).set 1 c1).set 2 c2
  have f := fr3 (w6 := w6) hn c0 c1 c2
  have f9 : Fr (fun q => q = w.heap.size) w6 _ := fr3 (w6 := w6) (S6 := fun q => q = w.heap.size) rfl c0 c1 c2
  have xq := f9.ext xw (fun g hg => by rw [hg]; exact Nat.le_refl _)
  have hz : (((w6.setCell ⟨w.heap.size, 0, none⟩ c0).setCell ⟨w.heap.size, 1, none⟩ c1).setCell ⟨w.heap.size, 2, none⟩ c2).heap.size = w6.heap.size := by simp [World.setCell]
  have bn := Blk.new (((w6.setCell ⟨w.heap.size, 0, none⟩ c0).setCell ⟨w.heap.size, 1, none⟩ c1).setCell ⟨w.heap.size, 2, none⟩ c2) 34 [p0, p1]
  rw [hz] at bn
  exact regEnd (tS := 25) (tR := 34) (by omega) (Nat.le_refl _) (by omega) (b1.ext ((Ext.refl _).alloc _)) bn s6 (f.then_ext ((Ext.refl _).alloc _)) hS (xq.trans ((Ext.refl _).alloc _))
theorem way5 (x6 : Ext (w.alloc (.cells #[v0, v1] 34)).drew w6) (s6 : ∀ w'', Fr S6 w6 w'' → P w'') (hS : ∀ q, q = gr ∨ q = gt → S6 q) (hn : S6 w.heap.size) :
    RegPost gr gt w (((w6.setCell ⟨w.heap.size, 0, none⟩ p0).setCell ⟨w.heap.size, 1, none⟩ p1).alloc (.cells #[c0, c1, c2] 25)) w6.heap.size w.heap.size c0 c1 c2 p0 p1 P := by
  have x0 : Ext (w.alloc (.cells [v0, v1].toArray 34)) w6 := (Ext.refl _).drew.trans x6
  have xw : Ext w w6 := ((Ext.refl w).alloc _).trans x0
  have hs : w.heap.size + 1 ≤ w6.heap.size := by have := x0.size; simpa using this
  have b0 := (Blk.new w 34 [v0, v1]).ext x0
  have b1 := (b0.set 0 p0).set 1 p1
  have f := fr2 (w6 := w6) hn p0 p1
  have f9 : Fr (fun q => q = w.heap.size) w6 _ := fr2 (w6 := w6) (S6 := fun q => q = w.heap.size) rfl p0 p1
  have xq := f9.ext xw (fun g hg => by rw [hg]; exact Nat.le_refl _)
  have hz : ((w6.setCell ⟨w.heap.size, 0, none⟩ p0).setCell ⟨w.heap.size, 1, none⟩ p1).heap.size = w6.heap.size := by simp [World.setCell]
  have bn := Blk.new ((w6.setCell ⟨w.heap.size, 0, none⟩ p0).setCell ⟨w.heap.size, 1, none⟩ p1) 25 [c0, c1, c2]
  rw [hz] at bn
  exact regEnd (tS := 25) (tR := 34) (by omega) (by omega) (Nat.le_refl _) bn (b1.ext ((Ext.refl _).alloc _)) s6 (f.then_ext ((Ext.refl _).alloc _)) hS (xq.trans ((Ext.refl _).alloc _))
theorem way4 (x6 : Ext ((w.alloc (.cells #[u0, u1, u2] 25)).alloc (.cells #[v0, v1] 34)).drew w6) (s6 : ∀ w'', Fr S6 w6 w'' → P w'') (hS : ∀ q, q = gr ∨ q = gt → S6 q) (hn : S6 w.heap.size) (hm : S6 (w.heap.size + 1)) :
    RegPost gr gt w (((((w6.setCell ⟨w.heap.size, 0, none⟩ c0).setCell ⟨w.heap.size, 1, none⟩ c1).setCell ⟨w.heap.size, 2, none⟩ c2).setCell ⟨w.heap.size + 1, 0, none⟩ p0).setCell ⟨w.heap.size + 1, 1, none⟩ p1) w.heap.size (w.heap.size + 1) c0 c1 c2 p0 p1 P := by
  have x0 : Ext ((w.alloc (.cells [u0, u1, u2].toArray 25)).alloc (.cells [v0, v1].toArray 34)) w6 := (Ext.refl _).drew.trans x6
  have xw : Ext w w6 := (((Ext.refl w).alloc _).alloc _).trans x0
  have b0 := (Blk.new w 25 [u0, u1, u2]).ext (((Ext.refl _).alloc _).trans x0)
  have d0 := (blk_newR w (.cells [u0, u1, u2].toArray 25) 34 [v0, v1]).ext x0
  have n01 : w.heap.size ≠ w.heap.size + 1 := by omega
  have b1 := ((((b0.set 0 c0).set 1 c1).set 2 c2).far (p := ⟨w.heap.size + 1, 0, none⟩) n01 p0).far (p := ⟨w.heap.size + 1, 1, none⟩) n01 p1
  have d1 := (((((d0.far (p := ⟨w.heap.size, 0, none⟩) n01.symm c0).far (p := ⟨w.heap.size, 1, none⟩) n01.symm c1).far (p := ⟨w.heap.size, 2, none⟩) n01.symm c2).set 0 p0).set 1 p1)
  have f := (fr3 (w6 := w6) hn c0 c1 c2).trans (fr2 (S6 := S6) hm p0 p1) (fun _ _ h => h)
  have f9 := (fr3 (w6 := w6) (S6 := fun q => w.heap.size ≤ q) (Nat.le_refl _) c0 c1 c2).trans (fr2 (S6 := fun q => w.heap.size ≤ q) (g := w.heap.size + 1) (by omega) p0 p1) (fun _ _ h => h)
  exact regEnd (tS := 25) (tR := 34) n01 (Nat.le_refl _) (by omega) b1 d1 s6 f hS (f9.ext xw (fun g hg => hg))
theorem way6 (x6 : Ext ((w.alloc (.cells #[v0, v1] 34)).alloc (.cells #[u0, u1, u2] 25)).drew w6) (s6 : ∀ w'', Fr S6 w6 w'' → P w'') (hS : ∀ q, q = gr ∨ q = gt → S6 q) (hn : S6 w.heap.size) (hm : S6 (w.heap.size + 1)) :
    RegPost gr gt w (((((w6.setCell ⟨w.heap.size + 1, 0, none⟩ c0).setCell ⟨w.heap.size + 1, 1, none⟩ c1).setCell ⟨w.heap.size + 1, 2, none⟩ c2).setCell ⟨w.heap.size, 0, none⟩ p0).setCell ⟨w.heap.size, 1, none⟩ p1) (w.heap.size + 1) w.heap.size c0 c1 c2 p0 p1 P := by
  have x0 : Ext ((w.alloc (.cells [v0, v1].toArray 34)).alloc (.cells [u0, u1, u2].toArray 25)) w6 := (Ext.refl _).drew.trans x6
  have xw : Ext w w6 := (((Ext.refl w).alloc _).alloc _).trans x0
  have d0 := (Blk.new w 34 [v0, v1]).ext (((Ext.refl _).alloc _).trans x0)
  have b0 := (blk_newR w (.cells [v0, v1].toArray 34) 25 [u0, u1, u2]).ext x0
  have n01 : w.heap.size ≠ w.heap.size + 1 := by omega
  have b1 := ((((b0.set 0 c0).set 1 c1).set 2 c2).far (p := ⟨w.heap.size, 0, none⟩) n01.symm p0).far (p := ⟨w.heap.size, 1, none⟩) n01.symm p1
  have d1 := (((((d0.far (p := ⟨w.heap.size + 1, 0, none⟩) n01 c0).far (p := ⟨w.heap.size + 1, 1, none⟩) n01 c1).far (p := ⟨w.heap.size + 1, 2, none⟩) n01 c2).set 0 p0).set 1 p1)
  have f := (fr3 (w6 := w6) hm c0 c1 c2).trans (fr2 (S6 := S6) hn p0 p1) (fun _ _ h => h)
  have f9 := (fr3 (w6 := w6) (S6 := fun q => w.heap.size ≤ q) (g := w.heap.size + 1) (by omega) c0 c1 c2).trans (fr2 (S6 := fun q => w.heap.size ≤ q) (Nat.le_refl _) p0 p1) (fun _ _ h => h)
  exact regEnd (tS := 25) (tR := 34) n01.symm (by omega) (Nat.le_refl _) b1 d1 s6 f hS (f9.ext xw (fun g hg => hg))
end
end Go.Proofs.Ythbngenjcgclgaa
