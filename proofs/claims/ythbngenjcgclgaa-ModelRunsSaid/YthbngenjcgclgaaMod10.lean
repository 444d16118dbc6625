/- Layer 8: model.told; model.do of a pair that is put, or cut. Conditions: those that each theorem names. -/
import Derived.Test.YthbngenjcgclgaaMod9
namespace Go.Proofs.Ythbngenjcgclgaa
open Go.ChangeShapes Go.WideShapes Go.ChangeAt Go.RowKit
set_option linter.unusedVariables false
/-- One of two numbers. -/
def toldK (t : Bool) (y n : Int) : Int := if t = true then y else n
theorem told_ok (t : Bool) (y n v : Int) (w : World) : Calls Try.prog 25 #[.bool t, .int .i64 y, .int .i64 n, .int .u32 v] w fun e w' => e = .returned (.agg #[.int .i64 (toldK t y n), .int .u32 (toldK t v 0)]) ∧ Ext w w' := by
  cases t
  · go_enter Try.func25, Try.ntmps25
    go_wp2
    exact bodyPost_ret (v := .agg #[.int .i64 n, .int .u32 0]) (by simp [results, Try.results25, go_sem]) rfl ⟨rfl, (Ext.refl w).alloc _⟩
  · go_enter Try.func25, Try.ntmps25
    go_wp2
    exact bodyPost_ret (v := .agg #[.int .i64 y, .int .u32 v]) (by simp [results, Try.results25, go_sem]) rfl ⟨rfl, (Ext.refl w).alloc _⟩
/-- What was done to the map of a state at gs: a row of the call's own is there; nothing else that was there has turned. -/
structure MapOk (w0 w : World) (gs : Nat) (qv sv v : Value) (ps' : List Pr) (w' : World) (v' : Value) : Prop where
  row : PRow w' w0.heap.size v' ps'
  blk : Blk w' gs 25 [qv, sv, v']
  ext : Ext w0 w'
  fr : ∀ q, q < w.heap.size → q ≠ gs → v.ownBlock ≠ some q → w'.heap[q]? = w.heap[q]? ∧ v'.ownBlock ≠ some q
  size : w.heap.size ≤ w'.heap.size
def MapTo (w0 w : World) (gs : Nat) (qv sv v : Value) (ps' : List Pr) (w' : World) : Prop := ∃ v', MapOk w0 w gs qv sv v ps' w' v'
section
variable {w0 w W W5 W6 : World} {gs : Nat} {qv sv v v' : Value} {ps' : List Pr}
/-- Stores into blocks of the call's own behind it. -/
theorem MapOk.turn {S : Nat → Prop} (h : MapOk w0 W gs qv sv v ps' W5 v') (x : Ext w W) (f : Fr S W5 W6) (hw : w0.heap.size ≤ w.heap.size) (hg : gs < w.heap.size) (ho : ∀ q, v.ownBlock = some q → q < w.heap.size) (hS : ∀ q, S q → w.heap.size ≤ q ∧ (q < W.heap.size ∨ W5.heap.size ≤ q)) : MapOk w0 w gs qv sv v ps' W6 v' := by
  refine ⟨h.row.fr f (fun q hq hs => ?_), h.blk.fr f (fun hs => by have := (hS gs hs).1; omega), f.ext h.ext (fun q hs => by have := (hS q hs).1; omega), fun q hq hqg hqo => ?_, Nat.le_trans (Nat.le_trans x.size h.size) f.size⟩
  · obtain ⟨h1, h2 | h2⟩ := hS q hs
    · exact (h.fr q h2 (by omega) (fun e => by have := ho q e; omega)).2 hq
    · have := (World.ownsRow.lt h.row q hq).2
      omega
  · obtain ⟨f1, f2⟩ := h.fr q (Nat.lt_of_lt_of_le hq x.size) hqg hqo
    exact ⟨(f.block q (Nat.lt_of_lt_of_le (Nat.lt_of_lt_of_le hq x.size) h.size) (fun hs => by have := (hS q hs).1; omega)).trans (f1.trans (x.block q hq)), f2⟩
theorem MapOk.before (h : MapOk w0 W gs qv sv v ps' W5 v') (x : Ext w W) : MapOk w0 w gs qv sv v ps' W5 v' :=
  ⟨h.row, h.blk, h.ext, fun q hq hqg hqo => by
    obtain ⟨f1, f2⟩ := h.fr q (Nat.lt_of_lt_of_le hq x.size) hqg hqo
    exact ⟨f1.trans (x.block q hq), f2⟩, Nat.le_trans x.size h.size⟩
/-- Nothing was done but new blocks. -/
theorem MapOk.same {ps : List Pr} (x0 : Ext w0 w) (hb : Blk w gs 25 [qv, sv, v]) (h : PRow w w0.heap.size v ps) (x : Ext w W) : MapOk w0 w gs qv sv v ps W v :=
  ⟨h.ext x, hb.ext x, x0.trans x, fun q hq _ hqo => ⟨x.block q hq, hqo⟩, x.size⟩
theorem putP_map (x0 : Ext w0 w) {ps : List Pr} (hb : Blk w gs 25 [qv, sv, v]) (h : PRow w w0.heap.size v ps) (hn : ps.length ≤ 1000000) (hg : w0.heap.size ≤ gs) (a b : Int) (hh : hasP ps a = true) :
    Calls Try.prog 28 #[.pointer (some ⟨gs, 2, none⟩), .agg #[.int .u32 a, .int .u32 b], .func (.func 16) #[] #[]] w fun e w' => e = .returned (.tuple #[.agg #[.int .u32 (findP ps a).1, .int .u32 (findP ps a).2], .bool true]) ∧ MapTo w0 w gs qv sv v ps w' :=
  (putP_there w w0.heap.size gs qv sv v ps a b hb h hn x0.size hg hh).mono fun e w' ⟨he, x⟩ => ⟨he, v, MapOk.same x0 hb h x⟩
theorem putP_mapEnd (x0 : Ext w0 w) {ps : List Pr} (hb : Blk w gs 25 [qv, sv, v]) (h : PRow w w0.heap.size v ps) (hn : ps.length ≤ 1000000) (hg : w0.heap.size ≤ gs) (a b : Int) (hh : hasP ps a = false) (hidx : idxP ps (PutP a) = -1) :
    Calls Try.prog 28 #[.pointer (some ⟨gs, 2, none⟩), .agg #[.int .u32 a, .int .u32 b], .func (.func 16) #[] #[]] w fun e w' => e = .returned (.tuple #[.agg #[.int .u32 (findP ps a).1, .int .u32 (findP ps a).2], .bool false]) ∧ MapTo w0 w gs qv sv v (ps ++ [(a, b)]) w' :=
  (putP_end w0 w gs qv sv v ps a b x0 hb h hn hg hh hidx (ps ++ [(a, b)]) (fun W gv x _ hc hr => insEnd_ok w0 W v gv a b ps hn hr (x0.trans x) hc)).mono fun e w' ⟨he, v', h1, h2, h3, h4, h5⟩ => ⟨he, v', h1, h2, h3, h4, h5⟩
theorem cutP_map (x0 : Ext w0 w) {ps : List Pr} (hb : Blk w gs 25 [qv, sv, v]) (h : PRow w w0.heap.size v ps) (hn : ps.length ≤ 1000000) (hg : w0.heap.size ≤ gs) (a : Int) :
    Calls Try.prog 30 #[.pointer (some ⟨gs, 2, none⟩), .int .u32 a, .func (.func 16) #[] #[]] w fun e w' => e = .returned (.tuple #[.agg #[.int .u32 (findP ps a).1, .int .u32 (findP ps a).2], .bool (hasP ps a)]) ∧ MapTo w0 w gs qv sv v (left (CutP a) ps) w' :=
  (cutP_ok w w0.heap.size gs qv sv v ps a hb h hn x0.size hg).mono fun e w' ⟨he, v', h1, h2, h3, h4⟩ => ⟨he, v', h1, h2, h3.ext x0 (fun q hq => by
    rcases hq with hq | hq
    · omega
    · exact (World.ownsRow.lt h q hq).1), fun q hq hqg hqo => ⟨h3.block q hq (fun hs => hs.elim hqg hqo), by rw [h4]; exact hqo⟩, h3.size⟩
end
end Go.Proofs.Ythbngenjcgclgaa
