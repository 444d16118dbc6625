/- Layer 8: what was done to a state's queue; takeFirst; do of kinds 1 and 2. Conditions: those that each theorem names. -/
import Derived.Test.YthbngenjcgclgaaMod25
namespace Go.Proofs.Ythbngenjcgclgaa
open Go.ChangeShapes Go.WideShapes Go.ChangeAt Go.RowKit
set_option linter.unusedVariables false
/-- What was done to the queue of a state at gs. -/
structure QueOk (w0 w : World) (gs : Nat) (v sv mv : Value) (zs' : List Int) (w' : World) (v' : Value) : Prop where
  row : QRow w' w0.heap.size v' zs'
  blk : Blk w' gs 25 [v', sv, mv]
  ext : Ext w0 w'
  fr : ∀ q, q < w.heap.size → q ≠ gs → v.ownBlock ≠ some q → w'.heap[q]? = w.heap[q]? ∧ v'.ownBlock ≠ some q
  size : w.heap.size ≤ w'.heap.size
def QueTo (w0 w : World) (gs : Nat) (v sv mv : Value) (zs' : List Int) (w' : World) : Prop := ∃ v', QueOk w0 w gs v sv mv zs' w' v'
theorem did_que {w0 w w' : World} {gs : Nat} {qv sv mv : Value} {st : Sta} {zs' : List Int} (h : Own w w0.heap.size gs qv sv mv st) (k : QueTo w0 w gs qv sv mv zs' w') : DidTo w0 w gs qv sv mv ⟨zs', st.s, st.m⟩ w' := by
  obtain ⟨qv', k⟩ := k
  have tq := h.parts.q.typed
  have ts := typed_row h.parts.s
  have tm := typed_row h.parts.m
  have hb := h.blk
  have hs : ∀ g, sv.ownBlock = some g → w'.heap[g]? = w.heap[g]? ∧ qv'.ownBlock ≠ some g := fun g hg => k.fr g (ts g hg).2.1 (fun e => ts.ne_blk hb (by decide) (by rw [← e]; exact hg)) (fun e => h.parts.qs g e hg)
  have hm : ∀ g, mv.ownBlock = some g → w'.heap[g]? = w.heap[g]? := fun g hg => (k.fr g (tm g hg).2.1 (fun e => tm.ne_blk hb (by decide) (by rw [← e]; exact hg)) (fun e => tq.ne tm (by decide) g e hg)).1
  refine ⟨qv', sv, mv, ⟨k.blk, h.low, k.row, RowN.row (RowN.kept (RowN.of_row h.parts.s) (fun g hg => (hs g hg).1)), RowN.kept h.parts.m hm, fun g hg hg' => (hs g hg').2 hg⟩, k.ext, fun g hg hn ha => ?_, k.size⟩
  obtain ⟨k1, k2⟩ := k.fr g hg hn ha.1
  exact ⟨k1, k2, ha.2.1, ha.2.2⟩
theorem QRow.fr {w w' : World} {B : Nat} {v : Value} {zs : List Int} {S : Nat → Prop} (h : QRow w B v zs) (x : Fr S w w') (hS : ∀ g, v.ownBlock = some g → ¬ S g) : QRow w' B v zs := h.kept fun g hg => x.block g (h.typed g hg).2.1 (hS g hg)
theorem QRow.ext {w w' : World} {B : Nat} {v : Value} {zs : List Int} (h : QRow w B v zs) (x : Ext w w') : QRow w' B v zs := h.kept fun g hg => x.block g (h.typed g hg).2.1
section
variable {w0 w W W5 W6 : World} {gs : Nat} {qv sv mv v v' : Value} {zs' : List Int}
/-- Stores into blocks of the call's own behind it. -/
theorem QueOk.turn {S : Nat → Prop} (h : QueOk w0 W gs v sv mv zs' W5 v') (x : Ext w W) (f : Fr S W5 W6) (hw : w0.heap.size ≤ w.heap.size) (hg : gs < w.heap.size) (ho : ∀ q, v.ownBlock = some q → q < w.heap.size) (hS : ∀ q, S q → w.heap.size ≤ q ∧ (q < W.heap.size ∨ W5.heap.size ≤ q)) : QueOk w0 w gs v sv mv zs' W6 v' := by
  refine ⟨h.row.fr f (fun q hq hs => ?_), h.blk.fr f (fun hs => by have := (hS gs hs).1; omega), f.ext h.ext (fun q hs => by have := (hS q hs).1; omega), fun q hq hqg hqo => ?_, Nat.le_trans (Nat.le_trans x.size h.size) f.size⟩
  · obtain ⟨h1, h2 | h2⟩ := hS q hs
    · exact (h.fr q h2 (by omega) (fun e => by have := ho q e; omega)).2 hq
    · have := (h.row.typed q hq).2.1
      omega
  · obtain ⟨f1, f2⟩ := h.fr q (Nat.lt_of_lt_of_le hq x.size) hqg hqo
    exact ⟨(f.block q (Nat.lt_of_lt_of_le (Nat.lt_of_lt_of_le hq x.size) h.size) (fun hs => by have := (hS q hs).1; omega)).trans (f1.trans (x.block q hq)), f2⟩
theorem QueOk.before (h : QueOk w0 W gs v sv mv zs' W5 v') (x : Ext w W) : QueOk w0 w gs v sv mv zs' W5 v' :=
  ⟨h.row, h.blk, h.ext, fun q hq hqg hqo => by
    obtain ⟨f1, f2⟩ := h.fr q (Nat.lt_of_lt_of_le hq x.size) hqg hqo
    exact ⟨f1.trans (x.block q hq), f2⟩, Nat.le_trans x.size h.size⟩
/-- Stores into blocks of the call's own behind it. -/
theorem SetOk.turn {S : Nat → Prop} (h : SetOk w0 W gs qv v mv zs' W5 v') (x : Ext w W) (f : Fr S W5 W6) (hw : w0.heap.size ≤ w.heap.size) (hg : gs < w.heap.size) (ho : ∀ q, v.ownBlock = some q → q < w.heap.size) (hS : ∀ q, S q → w.heap.size ≤ q ∧ (q < W.heap.size ∨ W5.heap.size ≤ q)) : SetOk w0 w gs qv v mv zs' W6 v' := by
  refine ⟨h.row.fr f (fun q hq hs => ?_), h.blk.fr f (fun hs => by have := (hS gs hs).1; omega), f.ext h.ext (fun q hs => by have := (hS q hs).1; omega), fun q hq hqg hqo => ?_, Nat.le_trans (Nat.le_trans x.size h.size) f.size⟩
  · obtain ⟨h1, h2 | h2⟩ := hS q hs
    · exact (h.fr q h2 (by omega) (fun e => by have := ho q e; omega)).2 hq
    · have := (World.ownsRow.lt h.row q hq).2
      omega
  · obtain ⟨f1, f2⟩ := h.fr q (Nat.lt_of_lt_of_le hq x.size) hqg hqo
    exact ⟨(f.block q (Nat.lt_of_lt_of_le (Nat.lt_of_lt_of_le hq x.size) h.size) (fun hs => by have := (hS q hs).1; omega)).trans (f1.trans (x.block q hq)), f2⟩
theorem SetOk.before (h : SetOk w0 W gs qv v mv zs' W5 v') (x : Ext w W) : SetOk w0 w gs qv v mv zs' W5 v' :=
  ⟨h.row, h.blk, h.ext, fun q hq hqg hqo => by
    obtain ⟨f1, f2⟩ := h.fr q (Nat.lt_of_lt_of_le hq x.size) hqg hqo
    exact ⟨f1.trans (x.block q hq), f2⟩, Nat.le_trans x.size h.size⟩
theorem QueOk.same {zs : List Int} (x0 : Ext w0 w) (hb : Blk w gs 25 [v, sv, mv]) (h : QRow w w0.heap.size v zs) (x : Ext w W) : QueOk w0 w gs v sv mv zs W v :=
  ⟨h.ext x, hb.ext x, x0.trans x, fun q hq _ hqo => ⟨x.block q hq, hqo⟩, x.size⟩
/-- A new value is stored into a state, its row in blocks of the old one's or new. -/
theorem QueOk.store {v' : Value} (x0 : Ext w0 w) (hg : gs < w.heap.size) (hgl : w0.heap.size ≤ gs) (hv : ∀ q, v.ownBlock = some q → w0.heap.size ≤ q) (hvg : v.ownBlock ≠ some gs) (hb : Blk W5 gs 25 [v, sv, mv]) (h : QRow W5 w0.heap.size v' zs') (f : Fr (fun b => v.ownBlock = some b) w W5) (ho : ∀ g, v'.ownBlock = some g → v.ownBlock = some g ∨ w.heap.size ≤ g) : QueOk w0 w gs v sv mv zs' (W5.setCell ⟨gs, 0, none⟩ v') v' := by
  have fz : Fr (fun b => b = gs) W5 (W5.setCell ⟨gs, 0, none⟩ v') := Fr.setCell (S := fun b => b = gs) (p := ⟨gs, 0, none⟩) (Fr.refl _ W5) (Or.inl rfl) _
  have f7 : Fr (fun b => b = gs ∨ v.ownBlock = some b) w (W5.setCell ⟨gs, 0, none⟩ v') := (f.mono (fun q _ hq => Or.inr hq)).trans fz (fun q _ hq => Or.inl hq)
  refine ⟨h.fr fz (fun q hq e => ?_), hb.set 0 _, f7.ext x0 (fun q hq => ?_), fun q hq hqg hqo => ⟨f7.block q hq (fun hs => hs.elim hqg hqo), fun e => ?_⟩, f7.size⟩
  · subst e
    rcases ho q hq with h1 | h1
    · exact hvg h1
    · omega
  · rcases hq with hq | hq
    · omega
    · exact hv q hq
  · rcases ho q e with h1 | h1
    · exact hqo h1
    · omega
end
theorem step_append_runI {P : Program} {ops : Array Oper} {o : Oper} {a : Act} {w : World} {K : Act → World → Prop} {Q : Exit → Act → World → Prop} {E : Prop}
    (hg : o.guard = none) (s x : Operand) (t : TypeId) (hop : o.op = Op.call { callee := Callee.builtin Builtin.append, args := #[s, x], argTypes := #[t, t] })
    (v u : Value) (hs : a.eval s = v) (hx : a.eval x = u) {v' : Value} {w' : World} (hr : (Builtin.append_ #[t, t] o.type #[v, u]).run P w = .ok v' w') (hK : K (a.put o.dst v') w') :
    if Region.wanted o (yielded ops a.tmps) = true then Oper.wp P o a w K Q else E := by
  have hw : Region.wanted o (yielded ops a.tmps) = true := by simp [Region.wanted, hg]
  rw [if_pos hw]
  unfold Oper.wp
  simp [execOp, hop, resolve, invoke, builtin, hs, hx, hr, Result.andThen]
  exact hK
set_option maxRecDepth 100000 in
set_option maxHeartbeats 2000000 in
theorem take_none (w0 w : World) (gs : Nat) (v sv mv : Value) (x0 : Ext w0 w) (hb : Blk w gs 25 [v, sv, mv]) (h : QRow w w0.heap.size v []) :
    Calls Try.prog 23 #[.pointer (some ⟨gs, 0, none⟩)] w fun e w' => e = .returned (.agg #[.int .i64 2, .int .u32 0]) ∧ QueTo w0 w gs v sv mv [] w' := by
  have HH := Lib.hid h
  have HB := Lib.hid hb
  have X0 := Lib.hid x0
  obtain ⟨A, c, rfl, hnc, hcm, hP⟩ := h.form
  have hg : ¬ gs = w.heap.size := by have := hb.lt; omega
  have hgl := hb.lt
  have c0 : w.cell? ⟨gs, 0, none⟩ = some (.slice A 0 c) := hb.cell 0
  clear h hP hb x0
  go_enter Try.func23, Try.ntmps23
  go_wp2_with fail
  exact bodyPost_ret (v := .agg #[.int .i64 2, .int .u32 0]) (by simp [results, Try.results23, go_sem]) rfl ⟨rfl, .slice A 0 c, QueOk.same X0.out HB.out HH.out ((Ext.refl w).alloc _)⟩
set_option maxRecDepth 100000 in
set_option maxHeartbeats 2000000 in
theorem take_some (w0 w : World) (gs : Nat) (v sv mv : Value) (z : Int) (zs : List Int) (x0 : Ext w0 w) (hb : Blk w gs 25 [v, sv, mv]) (h : QRow w w0.heap.size v (z :: zs)) (hgl : w0.heap.size ≤ gs) (hn : zs.length ≤ 1000000) :
    Calls Try.prog 23 #[.pointer (some ⟨gs, 0, none⟩)] w fun e w' => e = .returned (.agg #[.int .i64 1, .int .u32 z]) ∧ QueTo w0 w gs v sv mv zs w' := by
  have HH := Lib.hid h
  have HB := Lib.hid hb
  have X0 := Lib.hid x0
  obtain ⟨A0, c0', e0, _, _, hP⟩ := h.form
  obtain ⟨ad, eA, hbl, hc⟩ := hP (by simp)
  have hvg := h.typed.ne_blk hb (by decide)
  rcases h with ⟨_, e⟩ | ⟨g, o, c, cur, rfl, hBg, hh, hnc, hcm, hcs, ht⟩
  · cases e
  injection e0 with e1 _ e3
  subst e1 e3
  injection eA with eA
  subst eA
  have q0 : w.cell? ⟨g, o, none⟩ = some (.int .u32 z) := by
    have := hc 0 (by simp)
    rw [add_cell, Nat.add_zero] at this
    exact this
  simp only [List.length_cons] at hnc ht HH HB hvg ⊢
  have hgw : g < w.heap.size := lt_of_heap hh
  have hgn : ¬ gs = w.heap.size := by have := hb.lt; omega
  have hgn2 : ¬ g = w.heap.size := by omega
  have hgs := hb.lt
  have k0 : w.cell? ⟨gs, 0, none⟩ = some (.slice (some ⟨g, o, none⟩) (zs.length + 1) c) := hb.cell 0
  have kf : w.frozen? ⟨gs, 0, none⟩ = false := hb.frozen 0
  have HT : Hid (∀ (o' : Nat), o' + (c - 1) ≤ cur.size → (zs ≠ [] → o' = o + 1) → ∀ W, Ext w W → QRow W w0.heap.size (.slice (some ⟨g, o', none⟩) zs.length (c - 1)) zs) := Lib.hid (fun o' h1 h2 W x => Or.inr ⟨g, o', c - 1, cur, rfl, hBg, (x.block g hgw).trans hh, by omega, by omega, h1, by
    rcases List.eq_nil_or_concat zs with h0 | ⟨_, _, h0⟩
    · subst h0; simp
    · have hz : zs ≠ [] := by rw [h0]; simp
      rw [h2 hz]
      have h3 := congrArg (List.drop 1) ht
      rw [List.drop_take, List.drop_drop] at h3
      simpa using h3⟩)
  have hvb : ∀ q, (Value.slice (some ⟨g, o, none⟩) (zs.length + 1) c).ownBlock = some q → w0.heap.size ≤ q := fun q hq => by
    have : g = q := by simpa [Value.ownBlock] using hq
    omega
  have HV := Lib.hid hvg
  have HVB := Lib.hid hvb
  have HCS := Lib.hid hcs
  have hz0 : Hid (c = 1 → zs = []) := Lib.hid (fun h1 => List.length_eq_zero_iff.1 (by omega))
  generalize hm : zs.length = m at *
  have HM := Lib.hid hm
  clear hb x0 hP hbl hc hh ht hm hvg hvb hcs
  have hlen : ((m : Int) + 1 == 0) = false := by simp; omega
  have x1 := (Ext.refl w).alloc (.cells #[.int .i64 0, .int .u32 0] 34)
  have l1 := Blk.new w 34 [.int .i64 0, .int .u32 0]
  have L1 := Lib.hid l1
  have X1 := Lib.hid x1
  have hb1 := Lib.hid (HB.out.ext x1)
  clear l1 x1
  unfold maxLen at hcm
  by_cases h1 : c = 1
  · subst h1
    obtain rfl : m = 0 := by omega
    go_enter Try.func23, Try.ntmps23
    go_wp2_with fail
    exact bodyPost_ret (v := .agg #[.int .i64 1, .int .u32 z]) (by simp [results, Try.results23, go_sem]) rfl ⟨rfl, .slice (some ⟨g, o, none⟩) 0 0, (QueOk.store X0.out hgs hgl HVB.out HV.out HB.out (HT.out o (by have := HCS.out; omega) (fun hz => absurd (hz0.out (by simp)) hz) w (Ext.refl w)) (Fr.refl _ w) (fun q hq => Or.inl hq)).turn (S := fun _ => False) (Ext.refl w) (Fr.of_ext ((Ext.refl _).alloc _)) X0.out.size hgs (by intro q hq; simp [Value.ownBlock] at hq; omega) (fun _ hs => hs.elim)⟩
  · have hne : ¬ 1 = c := by omega
    have h1c : 1 ≤ c := by omega
    go_enter Try.func23, Try.ntmps23
    go_wp2_with fail
    exact bodyPost_ret (v := .agg #[.int .i64 1, .int .u32 z]) (by simp [results, Try.results23, go_sem]) rfl ⟨rfl, .slice (some ⟨g, o + 1, none⟩) m (c - 1), (QueOk.store X0.out hgs hgl HVB.out HV.out HB.out (HT.out (o + 1) (by have := HCS.out; omega) (fun _ => rfl) w (Ext.refl w)) (Fr.refl _ w) (fun q hq => Or.inl hq)).turn (S := fun _ => False) (Ext.refl w) (Fr.of_ext ((Ext.refl _).alloc _)) X0.out.size hgs (by intro q hq; simp [Value.ownBlock] at hq; omega) (fun _ hs => hs.elim)⟩
end Go.Proofs.Ythbngenjcgclgaa
