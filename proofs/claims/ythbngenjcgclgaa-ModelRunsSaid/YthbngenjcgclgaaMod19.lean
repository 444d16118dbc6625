/- Layer 8: numbers: cut, what was done to a state's set. Conditions: those that each theorem names. -/
import Derived.Test.YthbngenjcgclgaaMod18
namespace Go.Proofs.Ythbngenjcgclgaa
open Go.ChangeShapes Go.WideShapes Go.ChangeAt Go.RowKit
set_option linter.unusedVariables false
/-- What was done to the set of a state at gs: a row of the call's own is there; nothing else that was there has turned. -/
structure SetOk (w0 w : World) (gs : Nat) (qv v mv : Value) (zs' : List Int) (w' : World) (v' : Value) : Prop where
  row : IRow w' w0.heap.size v' zs'
  blk : Blk w' gs 25 [qv, v', mv]
  ext : Ext w0 w'
  fr : ∀ q, q < w.heap.size → q ≠ gs → v.ownBlock ≠ some q → w'.heap[q]? = w.heap[q]? ∧ v'.ownBlock ≠ some q
  size : w.heap.size ≤ w'.heap.size
def SetTo (w0 w : World) (gs : Nat) (qv v mv : Value) (zs' : List Int) (w' : World) : Prop := ∃ v', SetOk w0 w gs qv v mv zs' w' v'
/-- The set alone was turned. -/
theorem did_set {w0 w w' : World} {gs : Nat} {qv sv mv : Value} {st : Sta} {zs' : List Int} (h : Own w w0.heap.size gs qv sv mv st) (k : SetTo w0 w gs qv sv mv zs' w') : DidTo w0 w gs qv sv mv ⟨st.q, zs', st.m⟩ w' := by
  obtain ⟨sv', k⟩ := k
  have tq := h.parts.q.typed
  have ts := typed_row h.parts.s
  have tm := typed_row h.parts.m
  have hb := h.blk
  have hq : ∀ g, qv.ownBlock = some g → w'.heap[g]? = w.heap[g]? ∧ sv'.ownBlock ≠ some g := fun g hg => k.fr g (tq g hg).2.1 (fun e => tq.ne_blk hb (by decide) (by rw [← e]; exact hg)) (h.parts.qs g hg)
  have hm : ∀ g, mv.ownBlock = some g → w'.heap[g]? = w.heap[g]? := fun g hg => (k.fr g (tm g hg).2.1 (fun e => tm.ne_blk hb (by decide) (by rw [← e]; exact hg)) (fun e => ts.ne tm (by decide) g e hg)).1
  refine ⟨qv, sv', mv, ⟨k.blk, h.low, h.parts.q.kept (fun g hg => (hq g hg).1), k.row, RowN.kept h.parts.m hm, fun g hg => (hq g hg).2⟩, k.ext, fun g hg hn ha => ?_, k.size⟩
  obtain ⟨k1, k2⟩ := k.fr g hg hn ha.2.1
  exact ⟨k1, ha.1, k2, ha.2.2⟩
set_option maxRecDepth 100000 in
set_option maxHeartbeats 2000000 in
theorem cut32_ok (w0 w : World) (gs : Nat) (qv v mv : Value) (ps : List Int) (key : Int) (x0 : Ext w0 w) (hb : Blk w gs 25 [qv, v, mv]) (h : IRow w w0.heap.size v ps) (hn : ps.length ≤ 1000000) (hg : w0.heap.size ≤ gs) :
    Calls Try.prog 26 #[.pointer (some ⟨gs, 1, none⟩), .int .u32 key, .func (.func 14) #[] #[]] w fun e w' => e = .returned (.tuple #[.int .u32 (foundI ps key), .bool (hasI ps key)]) ∧ SetTo w0 w gs qv v mv (leftI (CutI key) ps) w' := by
  have hgl := hb.lt
  have hg1 : ¬ gs = w.heap.size := by omega
  have hg2 : ¬ gs = w.heap.size + 1 := by omega
  have HH := Lib.hid h
  have HB := Lib.hid hb
  have X0 := Lib.hid x0
  have hB := x0.size
  obtain ⟨A, c, rfl, hnc, hcm, hP⟩ := h.form
  obtain ⟨n, hl⟩ : ∃ n, ps.length = n := ⟨_, rfl⟩
  have HFi := Lib.hid (fun (W : World) (x : Ext w W) => (find32_ok W A ps.length c ps key rfl hn (hP.ext x)).mono fun e w' ⟨h1, h2⟩ => (⟨h1, h2.symm⟩ : e = Ending.returned (.tuple #[.int .u32 (foundI ps key), .bool (hasI ps key)]) ∧ w' = W))
  clear h hP hb x0
  rw [hl] at HFi HH HB hn hnc ⊢
  have HL := Lib.hid hl
  clear hl
  generalize foundI ps key = fa at *
  generalize hasI ps key = hp at *
  have x1 := ((Ext.refl w).alloc (.cells #[.int .u32 key] 32)).alloc (.cells #[.func (.func 14) #[] #[]] 43)
  have y4 := (Blk.new w 32 [.int .u32 key]).ext ((Ext.refl _).alloc (.cells #[.func (.func 14) #[] #[]] 43))
  have y5 := Blk.new (w.alloc (.cells #[.int .u32 key] 32)) 43 [.func (.func 14) #[] #[]]
  rw [show (w.alloc (.cells #[.int .u32 key] 32)).heap.size = w.heap.size + 1 by simp] at y5
  have hcW := (HB.out.ext x1).cell 1
  have Y4 := Lib.hid y4
  have Y5 := Lib.hid y5
  have X1 := Lib.hid x1
  clear x1 y4 y5
  go_enter Try.func26, Try.ntmps26
  go_upto_region 1 with fail
  generalize (w.alloc (.cells #[.int .u32 key] 32)).alloc (.cells #[.func (.func 14) #[] #[]] 43) = W0 at *
  have k4 : W0.cell? ⟨w.heap.size, 0, none⟩ = some (.int .u32 key) := Y4.out.cell 0
  have k5 : W0.cell? ⟨w.heap.size + 1, 0, none⟩ = some (.func (.func 14) #[] #[]) := Y5.out.cell 0
  have hcw : W0.cell? ⟨gs, 1, none⟩ = some (.slice A n c) := hcW
  clear hcW
  go_quiet ((go_at_call 27; exact Calls.quiet_of_same (HFi.out _ (by first | exact X1.out | exact X1.out.drew | exact X1.out.trans (extN _ _)))))
  have hown : Hid (∀ q, (Value.slice A n c).ownBlock = some q → w0.heap.size ≤ q ∧ q < w.heap.size) := Lib.hid (fun q hq => World.ownsRow.lt HH.out q hq)
  have HD : Hid (∀ W, Ext W0 W → Calls Try.prog 34 #[.slice A n c, .func (.func 35) #[] #[.pointer (some ⟨w.heap.size + 1, 0, none⟩), .pointer (some ⟨w.heap.size, 0, none⟩)]] W fun e w' => ∃ v', e = .returned v' ∧ IRow w' w0.heap.size v' (leftI (CutI key) ps) ∧ Fr (fun b => (Value.slice A n c).ownBlock = some b) w w' ∧ v'.ownBlock = (Value.slice A n c).ownBlock) := Lib.hid (fun W y => (del32_ok W w0.heap.size (.slice A n c) ps (CutI key) _ _ (by rw [HL.out]; exact hn) (HH.out.ext (X1.out.trans y)) (Nat.le_trans hB (X1.out.trans y).size) (fun W' p f => by
    have e4 := (Y4.out.ext y).fr f (fun hq => by have := (hown.out _ hq).2; omega)
    have e5 := (Y5.out.ext y).fr f (fun hq => by have := (hown.out _ hq).2; omega)
    exact cutF32_ok W' p key (w.heap.size + 1) w.heap.size (e5.cell 0) (e4.cell 0))).mono fun e w' ⟨v', h1, h2, h3, h4⟩ => ⟨v', h1, h2, (Fr.of_ext (X1.out.trans y)).trans h3 (fun _ _ hq => hq), h4⟩)
  have hmf : ∀ (fn : Fn) (first cap : Array Value) (w : World), (Instr.makeFunc fn first cap).run Try.prog w = .ok (.func fn first cap) w := fun _ _ _ _ => rfl
  have hgn : Hid ((Value.slice A n c).ownBlock ≠ some gs) := Lib.hid ((typed_row HH.out).ne_blk HB.out (by decide))
  clear HFi k4 k5
  go_wp2_with fail
  refine (HD.out _ (by first | exact extN _ _ | exact (Ext.refl _).drew)).mono ?_
  rintro e w6 ⟨v', rfl, r6, f6, o6⟩
  have b6 := HB.out.fr f6 hgn.out
  obtain ⟨A', c', rfl, _, _, _⟩ := r6.form
  have j0 : w6.cell? ⟨gs, 1, none⟩ = some (.slice A n c) := b6.cell 1
  have j1 : w6.frozen? ⟨gs, 1, none⟩ = false := b6.frozen 1
  have R6 := Lib.hid r6
  have F6 := Lib.hid f6
  have O6 := Lib.hid o6
  have B6 := Lib.hid b6
  generalize hm : (leftI (CutI key) ps).length = m at *
  have HM := Lib.hid hm
  clear r6 f6 o6 b6 hm hcw
  go_wp2_with fail
  go_ret2
  refine ⟨rfl, .slice A' m c', ?_⟩
  have fz : Fr (fun b => b = gs) w6 (w6.setCell ⟨gs, 1, none⟩ (.slice A' m c')) := Fr.setCell (S := fun b => b = gs) (p := ⟨gs, 1, none⟩) (Fr.refl _ w6) (Or.inl rfl) _
  have f7 : Fr (fun b => b = gs ∨ (Value.slice A n c).ownBlock = some b) w (w6.setCell ⟨gs, 1, none⟩ (.slice A' m c')) := (F6.out.mono (fun q _ hq => Or.inr hq)).trans fz (fun q _ hq => Or.inl hq)
  refine ⟨R6.out.fr fz (fun q hq e => ?_), B6.out.set 1 _, f7.ext X0.out (fun q hq => ?_), fun q hq hqg hqo => ⟨f7.block q hq (fun hs => hs.elim hqg hqo), by rw [O6.out]; exact hqo⟩, f7.size⟩
  · rw [O6.out, e] at hq
    exact hgn.out hq
  · rcases hq with hq | hq
    · omega
    · exact (hown.out q hq).1
end Go.Proofs.Ythbngenjcgclgaa
