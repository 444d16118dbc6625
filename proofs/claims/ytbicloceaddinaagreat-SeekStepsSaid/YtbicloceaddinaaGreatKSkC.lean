/- The document's Seek: its cells, its beginning, how it goes on. Conditions: those that each theorem names. -/
import Derived.Test.YtbicloceaddinaaGreatKSkB
import Derived.Test.YtbicloceaddinaaGreatKLkB
import Derived.Test.YtbicloceaddinaaGreatKAt
import Derived.Deep.RegionHeld3
namespace Go.Proofs.YtbicloceaddinaaGreat
open Go.ChangeShapes Go.WideShapes Go.ChangeAt Go.RowKit
set_option linter.unusedVariables false
def rsC (t s l b : Nat) (th head key line : Int) (rp sp : Option Addr) (fnd : Bool) (prev word came curr link whn : Int) : List Value := [.int .i64 t, .int .i64 s, .int .i64 l, .int .i64 b, .int .i64 th, .int .i64 head, .int .u32 key, .int .i64 line, .pointer rp, .pointer sp, .bool fnd, .int .i64 prev, .int .u64 word, .int .i64 came, .int .i64 curr, .int .u64 link, .int .i64 whn]
def rr0 : RLr := ⟨1, 0, 0, -1⟩
def rs0 : RLs := ⟨1, false, -1, 0⟩
/-- Where a slot's link lies, and its key. -/
theorem rNext_ok {t s l b : Nat} (c : CfgN t s l b) (n : Int) (w : World) :
    Calls Tryz.prog 41 #[.agg #[.int .i64 t, .int .i64 s, .int .i64 l, .int .i64 b], .int .i64 n] w fun e w' => e = .returned (.int .i64 (nxtN (layF t s l b) n)) ∧ Ext w w' := by
  have HA := Lib.hid (fun W => at_any t s l b 12 n 0 W c.t1 c.s1 c.s0 c.l1 c.b1 (by decide) (by decide) (fun _ => rfl) (fun h => by omega))
  have e1 : toldF (layF t s l b) 12 n 0 = nxtN (layF t s l b) n := rfl
  rw [e1] at HA
  have X0 := Lib.hid ((Ext.refl w).alloc (.cells #[.int .i64 t, .int .i64 s, .int .i64 l, .int .i64 b] 23))
  generalize nxtN (layF t s l b) n = a at *
  clear e1 c
  go_enter Tryz.func41, Tryz.ntmps41
  go_wp2_with fail
  refine (HA.out _).mono ?_
  rintro e w1 ⟨rfl, x1⟩
  have X1 := Lib.hid (X0.out.trans x1)
  clear x1
  go_wp2_with fail
  go_ret
  exact ⟨rfl, X1.out⟩
theorem rKeyAt_ok {t s l b : Nat} (c : CfgN t s l b) (n : Int) (w : World) :
    Calls Tryz.prog 104 #[.agg #[.int .i64 t, .int .i64 s, .int .i64 l, .int .i64 b], .agg #[.int .i64 10, .int .i64 n, .int .i64 0]] w fun e w' => e = .returned (.int .i64 (keyN (layF t s l b) n)) ∧ Ext w w' :=
  at_any t s l b 10 n 0 w c.t1 c.s1 c.s0 c.l1 c.b1 (by decide) (by decide) (fun _ => rfl) (fun h => by omega)
section
variable {w w' : World} {gq g : Nat} {t s l b : Nat} {th head key line : Int} {rp sp : Option Addr} {fnd : Bool} {prev word came curr link whn : Int}
set_option maxRecDepth 100000 in
set_option maxHeartbeats 4000000 in
theorem rbegin_ok (hb : Blk w gq 83 (rsC t s l b th head key line rp sp fnd prev word came curr link whn)) :
    Calls Tryz.prog 98 #[.pointer (some ⟨gq, 0, none⟩)] w fun e w' => (∃ u, e = .returned u) ∧ ∃ gn, w.heap.size ≤ gn ∧ Blk w' gn 157 (rr0.cells th head) ∧ Blk w' gq 83 (rsC t s l b th head key 1 (some ⟨gn, 0, none⟩) sp fnd head word came curr link whn) ∧ Fr (fun b => b = gq) w w' := by
  have hlt := hb.lt
  have c5 : w.cell? ⟨gq, 5, none⟩ = some (.int .i64 head) := hb.cell 5
  have c7 : w.cell? ⟨gq, 7, none⟩ = some (.int .i64 line) := hb.cell 7
  have c11 : w.cell? ⟨gq, 11, none⟩ = some (.int .i64 prev) := hb.cell 11
  have z7 : w.frozen? ⟨gq, 7, none⟩ = false := hb.frozen 7
  have z11 : w.frozen? ⟨gq, 11, none⟩ = false := hb.frozen 11
  have B2 : Hid (Blk ((w.setCell ⟨gq, 7, none⟩ (.int .i64 1)).setCell ⟨gq, 11, none⟩ (.int .i64 head)) gq 83 (rsC t s l b th head key 1 rp sp fnd head word came curr link whn)) := Lib.hid ((hb.set 7 (.int .i64 1)).set 11 (.int .i64 head))
  have F2 : Hid (Fr (fun b => b = gq) w ((w.setCell ⟨gq, 7, none⟩ (.int .i64 1)).setCell ⟨gq, 11, none⟩ (.int .i64 head))) := Lib.hid (((Fr.refl (fun b => b = gq) w).setCell (p := ⟨gq, 7, none⟩) (Or.inl rfl) _).setCell (p := ⟨gq, 11, none⟩) (Or.inl rfl) _)
  have HNw := Lib.hid (fun W => rnewRead_ok W th head)
  clear hb
  go_enter Tryz.func98, Tryz.ntmps98
  go_upto_region 2 with fail
  generalize ((w.setCell ⟨gq, 7, none⟩ (.int .i64 1)).setCell ⟨gq, 11, none⟩ (.int .i64 head)) = w2 at *
  clear c5 c7 c11 z7 z11 hlt
  have hlt := B2.out.lt
  have M : Hid (Blk w2.drew gq 83 (rsC t s l b th head key 1 rp sp fnd head word came curr link whn) ∧ Fr (fun b => b = gq) w w2.drew) := Lib.hid ⟨B2.out.ext ((Ext.refl w2).drew), F2.out.then_ext ((Ext.refl w2).drew)⟩
  have HP : Hid (∀ W cs, cs[4]? = some (.int .i64 th) → cs[5]? = some (.int .i64 head) → Blk W gq 83 cs → W.cell? ⟨gq, 4, none⟩ = some (.int .i64 th) ∧ W.cell? ⟨gq, 5, none⟩ = some (.int .i64 head)) := Lib.hid (fun W cs h4 h5 b => ⟨(b.cell 4).trans h4, (b.cell 5).trans h5⟩)
  have c4 : w2.cell? ⟨gq, 4, none⟩ = some (.int .i64 th) := B2.out.cell 4
  have c5 : w2.cell? ⟨gq, 5, none⟩ = some (.int .i64 head) := B2.out.cell 5
  go_wp2_with fail
  go_region_held3 (fun W => W.cell? ⟨gq, 4, none⟩ = some (.int .i64 th) ∧ W.cell? ⟨gq, 5, none⟩ = some (.int .i64 head)) (first | exact HP.out _ _ rfl rfl M.out.1 | exact HP.out _ _ rfl rfl BS.out | go_keep) (first
    | (go_at_call 166; refine (HNw.out _).mono ?_; rintro e w4 ⟨gn, rfl, hgn, bn, x4⟩; have HN : Hid (gn ≠ gq ∧ w.heap.size ≤ gn) := Lib.hid (by have h1 := M.out.1.lt; have h2 := M.out.2.size; exact ⟨by omega, by omega⟩); have b4 := M.out.1.ext x4; have c9 : w4.cell? ⟨gq, 8, none⟩ = some (.pointer rp) := b4.cell 8; have z9 : w4.frozen? ⟨gq, 8, none⟩ = false := b4.frozen 8; have BS := Lib.hid (b4.set 8 (.pointer (some ⟨gn, 0, none⟩))); have FS := Lib.hid ((M.out.2.then_ext x4).setCell (p := ⟨gq, 8, none⟩) (Or.inl rfl) (.pointer (some ⟨gn, 0, none⟩))); have NS := Lib.hid (bn.far (p := ⟨gq, 8, none⟩) HN.out.1 (.pointer (some ⟨gn, 0, none⟩))); replace M := Lib.hid (And.intro b4 (M.out.2.then_ext x4)); clear b4 x4 bn hgn))
  all_goals
    go_wp2_with fail
    (first | (refine bodyPost_ret (results_none rfl _ _ _) rfl ?_) | (refine bodyPost_end (results_none rfl _ _ _) rfl ?_))
    exact ⟨⟨_, rfl⟩, gn, HN.out.2, NS.out, BS.out, FS.out⟩
set_option maxRecDepth 100000 in
set_option maxHeartbeats 4000000 in
theorem ron_ok (cg : CfgN t s l b) (wd ca : Int) (hv : W64 wd) (hb : Blk w gq 83 (rsC t s l b th head key line rp sp fnd prev word came curr link whn)) :
    Calls Tryz.prog 101 #[.pointer (some ⟨gq, 0, none⟩), .int .u64 wd, .int .i64 ca] w fun e w' => (∃ u, e = .returned u) ∧ Fr (fun b => b = gq) w w' ∧ ((toN wd < 0 ∧ Blk w' gq 83 (rsC t s l b th head key 0 rp sp fnd prev wd ca (toN wd) 0 ca)) ∨ (¬ toN wd < 0 ∧ ∃ gn, w.heap.size ≤ gn ∧ Blk w' gn 157 (rr0.cells th (nxtN (layF t s l b) (toN wd))) ∧ Blk w' gq 83 (rsC t s l b th head key 2 (some ⟨gn, 0, none⟩) sp fnd prev wd ca (toN wd) link whn))) := by
  have hlt := hb.lt
  have c12 : w.cell? ⟨gq, 12, none⟩ = some (.int .u64 word) := hb.cell 12
  have c13 : w.cell? ⟨gq, 13, none⟩ = some (.int .i64 came) := hb.cell 13
  have z12 : w.frozen? ⟨gq, 12, none⟩ = false := hb.frozen 12
  have z13 : w.frozen? ⟨gq, 13, none⟩ = false := hb.frozen 13
  have B1 : Hid (Blk ((w.setCell ⟨gq, 12, none⟩ (.int .u64 wd)).setCell ⟨gq, 13, none⟩ (.int .i64 ca)) gq 83 (rsC t s l b th head key line rp sp fnd prev wd ca curr link whn)) := Lib.hid ((hb.set 12 (.int .u64 wd)).set 13 (.int .i64 ca))
  have F1 : Hid (Fr (fun b => b = gq) w ((w.setCell ⟨gq, 12, none⟩ (.int .u64 wd)).setCell ⟨gq, 13, none⟩ (.int .i64 ca))) := Lib.hid (((Fr.refl (fun b => b = gq) w).setCell (p := ⟨gq, 12, none⟩) (Or.inl rfl) _).setCell (p := ⟨gq, 13, none⟩) (Or.inl rfl) _)
  have HTo : Hid (∀ W, Calls Tryz.prog 138 #[.int .u64 wd] W fun e w' => e = .returned (.int .i64 (toN wd)) ∧ Ext W w') := Lib.hid (fun W => rto_any wd hv.1 hv.2 W)
  have HNw := Lib.hid (fun W a => rnewRead_ok W th a)
  have HNx := Lib.hid (fun W => rNext_ok cg (toN wd) W)
  clear hb hv cg
  generalize nxtN (layF t s l b) (toN wd) = na at *
  obtain ⟨tz, hto⟩ : ∃ tz, toN wd = tz := ⟨_, rfl⟩
  rw [hto] at HTo HNx ⊢
  clear hto
  go_enter Tryz.func101, Tryz.ntmps101
  go_upto_region 2 with fail
  generalize ((w.setCell ⟨gq, 12, none⟩ (.int .u64 wd)).setCell ⟨gq, 13, none⟩ (.int .i64 ca)) = w0 at *
  clear c12 c13 z12 z13 hlt
  go_wp2_with fail
  refine (HTo.out _).mono ?_
  rintro e w1 ⟨rfl, x1⟩
  have b1 := B1.out.ext x1
  have c14 : w1.cell? ⟨gq, 14, none⟩ = some (.int .i64 curr) := b1.cell 14
  have c7 : w1.cell? ⟨gq, 7, none⟩ = some (.int .i64 line) := b1.cell 7
  have z14 : w1.frozen? ⟨gq, 14, none⟩ = false := b1.frozen 14
  have z7 : w1.frozen? ⟨gq, 7, none⟩ = false := b1.frozen 7
  have hlt := b1.lt
  have B2 : Hid (Blk ((w1.setCell ⟨gq, 14, none⟩ (.int .i64 tz)).setCell ⟨gq, 7, none⟩ (.int .i64 2)) gq 83 (rsC t s l b th head key 2 rp sp fnd prev wd ca tz link whn)) := Lib.hid ((b1.set 14 (.int .i64 tz)).set 7 (.int .i64 2))
  have F2 : Hid (Fr (fun b => b = gq) w ((w1.setCell ⟨gq, 14, none⟩ (.int .i64 tz)).setCell ⟨gq, 7, none⟩ (.int .i64 2))) := Lib.hid (((F1.out.then_ext x1).setCell (p := ⟨gq, 14, none⟩) (Or.inl rfl) _).setCell (p := ⟨gq, 7, none⟩) (Or.inl rfl) _)
  clear b1 x1 B1 F1
  go_upto_region 4 with fail
  generalize ((w1.setCell ⟨gq, 14, none⟩ (.int .i64 tz)).setCell ⟨gq, 7, none⟩ (.int .i64 2)) = w2 at *
  clear c14 c7 z14 z7 hlt
  have hlt := B2.out.lt
  have d14 : w2.cell? ⟨gq, 14, none⟩ = some (.int .i64 tz) := B2.out.cell 14
  by_cases ht : tz < 0
  · have t1 : decide (tz < 0) = true := by simpa using ht
    have HT := Lib.hid ht
    have c15 : w2.cell? ⟨gq, 15, none⟩ = some (.int .u64 link) := B2.out.cell 15
    have c16 : w2.cell? ⟨gq, 16, none⟩ = some (.int .i64 whn) := B2.out.cell 16
    have c7 : w2.cell? ⟨gq, 7, none⟩ = some (.int .i64 2) := B2.out.cell 7
    have z15 : w2.frozen? ⟨gq, 15, none⟩ = false := B2.out.frozen 15
    have z16 : w2.frozen? ⟨gq, 16, none⟩ = false := B2.out.frozen 16
    have z7 : w2.frozen? ⟨gq, 7, none⟩ = false := B2.out.frozen 7
    have B3 := Lib.hid (((B2.out.set 15 (.int .u64 0)).set 16 (.int .i64 ca)).set 7 (.int .i64 0))
    have F3 := Lib.hid (((F2.out.setCell (p := ⟨gq, 15, none⟩) (Or.inl rfl) (.int .u64 0)).setCell (p := ⟨gq, 16, none⟩) (Or.inl rfl) (.int .i64 ca)).setCell (p := ⟨gq, 7, none⟩) (Or.inl rfl) (.int .i64 0))
    clear ht
    go_wp2_with fail
    (first | (refine bodyPost_ret (results_none rfl _ _ _) rfl ?_) | (refine bodyPost_end (results_none rfl _ _ _) rfl ?_))
    exact ⟨⟨_, rfl⟩, F3.out, Or.inl ⟨HT.out, B3.out⟩⟩
  · have t1 : decide (tz < 0) = false := by simpa using ht
    have HT := Lib.hid ht
    clear ht
    have M : Hid (Blk w2.drew gq 83 (rsC t s l b th head key 2 rp sp fnd prev wd ca tz link whn) ∧ Fr (fun b => b = gq) w w2.drew) := Lib.hid ⟨B2.out.ext ((Ext.refl w2).drew), F2.out.then_ext ((Ext.refl w2).drew)⟩
    have HP : Hid (∀ W cs, (cs[0]? = some (.int .i64 t) ∧ cs[1]? = some (.int .i64 s) ∧ cs[2]? = some (.int .i64 l) ∧ cs[3]? = some (.int .i64 b)) → cs[4]? = some (.int .i64 th) → cs[14]? = some (.int .i64 tz) → Blk W gq 83 cs → (W.cell? ⟨gq, 0, none⟩ = some (.int .i64 t) ∧ W.cell? ⟨gq, 1, none⟩ = some (.int .i64 s) ∧ W.cell? ⟨gq, 2, none⟩ = some (.int .i64 l) ∧ W.cell? ⟨gq, 3, none⟩ = some (.int .i64 b)) ∧ W.cell? ⟨gq, 4, none⟩ = some (.int .i64 th) ∧ W.cell? ⟨gq, 14, none⟩ = some (.int .i64 tz)) := Lib.hid (fun W cs h0 h4 h5 bb => ⟨⟨(bb.cell 0).trans h0.1, (bb.cell 1).trans h0.2.1, (bb.cell 2).trans h0.2.2.1, (bb.cell 3).trans h0.2.2.2⟩, (bb.cell 4).trans h4, (bb.cell 14).trans h5⟩)
    have c0 : w2.cell? ⟨gq, 0, none⟩ = some (.int .i64 t) := B2.out.cell 0
    have c1 : w2.cell? ⟨gq, 1, none⟩ = some (.int .i64 s) := B2.out.cell 1
    have c2 : w2.cell? ⟨gq, 2, none⟩ = some (.int .i64 l) := B2.out.cell 2
    have c3 : w2.cell? ⟨gq, 3, none⟩ = some (.int .i64 b) := B2.out.cell 3
    have c4 : w2.cell? ⟨gq, 4, none⟩ = some (.int .i64 th) := B2.out.cell 4
    go_wp2_with fail
    go_region_held3 (fun W => (W.cell? ⟨gq, 0, none⟩ = some (.int .i64 t) ∧ W.cell? ⟨gq, 1, none⟩ = some (.int .i64 s) ∧ W.cell? ⟨gq, 2, none⟩ = some (.int .i64 l) ∧ W.cell? ⟨gq, 3, none⟩ = some (.int .i64 b)) ∧ W.cell? ⟨gq, 4, none⟩ = some (.int .i64 th) ∧ W.cell? ⟨gq, 14, none⟩ = some (.int .i64 tz)) (first | exact HP.out _ _ ⟨rfl, rfl, rfl, rfl⟩ rfl rfl M.out.1 | exact HP.out _ _ ⟨rfl, rfl, rfl, rfl⟩ rfl rfl BS.out | go_keep) (first
      | (go_at_call 41; refine (HNx.out _).mono ?_; rintro e w3 ⟨rfl, x3⟩; replace M := Lib.hid (And.intro (M.out.1.ext x3) (M.out.2.then_ext x3)); clear x3)
      | (go_at_call 166; refine (HNw.out _ _).mono ?_; rintro e w4 ⟨gn, rfl, hgn, bn, x4⟩; have HN : Hid (gn ≠ gq ∧ w.heap.size ≤ gn) := Lib.hid (by have h1 := M.out.1.lt; have h2 := M.out.2.size; exact ⟨by omega, by omega⟩); have b4 := M.out.1.ext x4; have c9 : w4.cell? ⟨gq, 8, none⟩ = some (.pointer rp) := b4.cell 8; have z9 : w4.frozen? ⟨gq, 8, none⟩ = false := b4.frozen 8; have BS := Lib.hid (b4.set 8 (.pointer (some ⟨gn, 0, none⟩))); have FS := Lib.hid ((M.out.2.then_ext x4).setCell (p := ⟨gq, 8, none⟩) (Or.inl rfl) (.pointer (some ⟨gn, 0, none⟩))); have NS := Lib.hid (bn.far (p := ⟨gq, 8, none⟩) HN.out.1 (.pointer (some ⟨gn, 0, none⟩))); replace M := Lib.hid (And.intro b4 (M.out.2.then_ext x4)); clear b4 x4 bn hgn))
    all_goals
      go_wp2_with fail
      (first | (refine bodyPost_ret (results_none rfl _ _ _) rfl ?_) | (refine bodyPost_end (results_none rfl _ _ _) rfl ?_))
      exact ⟨⟨_, rfl⟩, FS.out, Or.inr ⟨HT.out, gn, HN.out.2, NS.out, BS.out⟩⟩
set_option maxRecDepth 100000 in
set_option maxHeartbeats 4000000 in
theorem rnewSeek_ok (w : World) (t s l b : Nat) (th head key : Int) :
    Calls Tryz.prog 28 #[.agg #[.int .i64 t, .int .i64 s, .int .i64 l, .int .i64 b], .int .i64 th, .int .i64 head, .int .u32 key] w fun e w' => ∃ gq gn, e = .returned (.pointer (some ⟨gq, 0, none⟩)) ∧ w.heap.size ≤ gq ∧ gq < gn ∧ Blk w' gn 157 (rr0.cells th head) ∧ Blk w' gq 83 (rsC t s l b th head key 1 (some ⟨gn, 0, none⟩) none false head 0 0 0 0 0) ∧ Ext w w' := by
  have X0 := Lib.hid ((Ext.refl w).alloc (.cells #[.int .i64 t, .int .i64 s, .int .i64 l, .int .i64 b] 23))
  have B0 := Lib.hid (Blk.new w 23 [.int .i64 t, .int .i64 s, .int .i64 l, .int .i64 b])
  go_enter Tryz.func28, Tryz.ntmps28
  go_upto_region 1 with fail
  generalize w.alloc (.cells #[.int .i64 t, .int .i64 s, .int .i64 l, .int .i64 b] 23) = w0 at *
  have y0 : w0.cell? ⟨w.heap.size, 0, none⟩ = some (.int .i64 t) := B0.out.cell 0
  have y1 : w0.cell? ⟨w.heap.size, 1, none⟩ = some (.int .i64 s) := B0.out.cell 1
  have y2 : w0.cell? ⟨w.heap.size, 2, none⟩ = some (.int .i64 l) := B0.out.cell 2
  have y3 : w0.cell? ⟨w.heap.size, 3, none⟩ = some (.int .i64 b) := B0.out.cell 3
  have B1 := Lib.hid (Blk.new w0 83 (rsC t s l b th head key 0 none none false 0 0 0 0 0 0))
  have X1 := Lib.hid (X0.out.trans ((Ext.refl w0).alloc (.cells (rsC t s l b th head key 0 none none false 0 0 0 0 0 0).toArray 83)))
  have HS0 := Lib.hid X0.out.size
  clear X0 B0
  go_upto_region 2 with fail
  change Code.wp _ _ _ _ (w0.alloc (.cells (rsC t s l b th head key 0 none none false 0 0 0 0 0 0).toArray 83))
  generalize w0.alloc (.cells (rsC t s l b th head key 0 none none false 0 0 0 0 0 0).toArray 83) = w1 at *
  obtain ⟨gq, hgq⟩ : ∃ gq, w0.heap.size = gq := ⟨_, rfl⟩
  have HG : Hid (w.heap.size ≤ gq) := Lib.hid (by have := HS0.out; omega)
  rw [hgq] at B1
  rw [hgq]
  clear hgq y0 y1 y2 y3
  have hlt := B1.out.lt
  go_wp2_with fail
  refine (rbegin_ok B1.out).mono ?_
  rintro e w2 ⟨⟨u, rfl⟩, gn, hgn, bn, bs, fr⟩
  have BN := Lib.hid bn
  have BS := Lib.hid bs
  have HN : Hid (gq < gn) := Lib.hid (by omega)
  have X2 := Lib.hid (fr.ext X1.out (fun g hg => by rw [hg]; exact HG.out))
  clear bn bs fr hgn hlt
  go_wp2_with fail
  go_ret
  exact ⟨gq, gn, rfl, HG.out, HN.out, BN.out, BS.out, X2.out⟩
end
end Go.Proofs.YtbicloceaddinaaGreat


/- The document's Seek: its lines, each by what its callees leave. Conditions: those that each theorem names. -/
namespace Go.Proofs.YtbicloceaddinaaGreat
open Go.ChangeShapes Go.WideShapes Go.ChangeAt Go.RowKit
set_option linter.unusedVariables false
section
variable {w w' : World} {gq g gr gp : Nat} {t s l b : Nat} {th head key line : Int} {rp sp : Option Addr} {fnd : Bool} {prev word came curr link whn : Int} {P G : World → Prop} {ln got wd wh av old nw wr : Int} {put : Bool}
set_option maxRecDepth 100000 in
set_option maxHeartbeats 4000000 in
theorem rsk1_any (hb0 : Blk w gq 83 (rsC t s l b th head key 1 (some ⟨gr, 0, none⟩) sp fnd prev word came curr link whn)) (hR : Calls Tryz.prog 99 #[.pointer (some ⟨gr, 0, none⟩), .pointer (some ⟨g, 0, none⟩)] w fun e w' => (∃ u, e = .returned u) ∧ G w') (hb : ∀ W, G W → Blk W gq 83 (rsC t s l b th head key 1 (some ⟨gr, 0, none⟩) sp fnd prev word came curr link whn) ∧ Blk W gr 157 (RLr.cells ⟨ln, got, wd, wh⟩ th av)) (hw : W64 wd) (hno : ln ≠ 0 → ∀ W, G W → P W) (hbeg : ln = 0 → 0 ≤ byN wd → ∀ W W', G W → Ext W W' → Calls Tryz.prog 98 #[.pointer (some ⟨gq, 0, none⟩)] W' fun e w' => (∃ u, e = .returned u) ∧ P w') (hon : ln = 0 → ¬ 0 ≤ byN wd → ∀ W W', G W → Ext W W' → Calls Tryz.prog 101 #[.pointer (some ⟨gq, 0, none⟩), .int .u64 wd, .int .i64 wh] W' fun e w' => (∃ u, e = .returned u) ∧ P w') :
    Calls Tryz.prog 30 #[.pointer (some ⟨gq, 0, none⟩), .pointer (some ⟨g, 0, none⟩)] w fun e w' => (∃ u, e = .returned u) ∧ P w' := by
  have c7 : w.cell? ⟨gq, 7, none⟩ = some (.int .i64 1) := hb0.cell 7
  have c8 : w.cell? ⟨gq, 8, none⟩ = some (.pointer (some ⟨gr, 0, none⟩)) := hb0.cell 8
  have HR := Lib.hid hR
  have HB := Lib.hid hb
  have HNo := Lib.hid hno
  have HBe := Lib.hid hbeg
  have HOn := Lib.hid hon
  have HBy : Hid (∀ W, Calls Tryz.prog 100 #[.int .u64 wd] W fun e w' => e = .returned (.int .i64 (byN wd)) ∧ Ext W w') := Lib.hid (fun W => rby_any wd hw.1 hw.2 W)
  clear hb0 hR hb hno hbeg hon hw
  go_enter Tryz.func30, Tryz.ntmps30
  go_wp2_with fail
  refine HR.out.mono ?_
  rintro e w1 ⟨⟨u, rfl⟩, hg⟩
  have GG := Lib.hid hg
  have BB := Lib.hid (HB.out _ hg)
  clear hg c7 c8 HR HB
  have c8 : w1.cell? ⟨gq, 8, none⟩ = some (.pointer (some ⟨gr, 0, none⟩)) := BB.out.1.cell 8
  have r2 : w1.cell? ⟨gr, 2, none⟩ = some (.int .i64 ln) := BB.out.2.cell 2
  have r4 : w1.cell? ⟨gr, 4, none⟩ = some (.int .u64 wd) := BB.out.2.cell 4
  by_cases hl : ln = 0
  · subst hl
    go_wp2_with fail
    refine (HBy.out _).mono ?_
    rintro e w2 ⟨rfl, x2⟩
    have X2 := Lib.hid x2
    clear x2 c8 r2 r4
    have c8 : w2.cell? ⟨gq, 8, none⟩ = some (.pointer (some ⟨gr, 0, none⟩)) := (BB.out.1.ext X2.out).cell 8
    have r2 : w2.cell? ⟨gr, 2, none⟩ = some (.int .i64 0) := (BB.out.2.ext X2.out).cell 2
    have r4 : w2.cell? ⟨gr, 4, none⟩ = some (.int .u64 wd) := (BB.out.2.ext X2.out).cell 4
    have r5 : w2.cell? ⟨gr, 5, none⟩ = some (.int .i64 wh) := (BB.out.2.ext X2.out).cell 5
    generalize byN wd = by_ at *
    by_cases hy : 0 ≤ by_
    · have t1 : decide (0 ≤ by_) = true := by simpa using hy
      have HE := Lib.hid (HBe.out (by first | rfl | trivial) hy _ _ GG.out X2.out)
      clear hy HBe HOn HNo
      go_wp2_with fail
      refine HE.out.mono ?_
      rintro e w3 ⟨⟨u3, rfl⟩, hp⟩
      have PP := Lib.hid hp
      clear hp c8 r2 r4 r5 HE
      go_wp2_with fail
      (first | (refine bodyPost_ret (results_none rfl _ _ _) rfl ?_) | (refine bodyPost_end (results_none rfl _ _ _) rfl ?_))
      exact ⟨⟨_, rfl⟩, PP.out⟩
    · have t1 : decide (0 ≤ by_) = false := by simpa using hy
      have HE := Lib.hid (HOn.out (by first | rfl | trivial) (by omega))
      have M : Hid (Ext w1 w2.drew) := Lib.hid (X2.out.trans ((Ext.refl w2).drew))
      have HP : Hid (∀ W, Ext w1 W → W.cell? ⟨gq, 8, none⟩ = some (.pointer (some ⟨gr, 0, none⟩)) ∧ W.cell? ⟨gr, 4, none⟩ = some (.int .u64 wd) ∧ W.cell? ⟨gr, 5, none⟩ = some (.int .i64 wh)) := Lib.hid (fun W x => ⟨(BB.out.1.ext x).cell 8, (BB.out.2.ext x).cell 4, (BB.out.2.ext x).cell 5⟩)
      clear hy HBe HOn HNo
      go_wp2_with fail
      have xd := M.out
      go_region_with (first
        | (go_at_call 101; refine (HE.out _ _ GG.out (by first | exact xd | exact X2.out)).mono ?_; rintro e w3 ⟨⟨u3, rfl⟩, hp⟩; have PP := Lib.hid hp; clear hp))
      all_goals
        go_wp2_with fail
        (first | (refine bodyPost_ret (results_none rfl _ _ _) rfl ?_) | (refine bodyPost_end (results_none rfl _ _ _) rfl ?_))
        exact ⟨⟨_, rfl⟩, PP.out⟩
  · have t1 : decide (ln = 0) = false := by simpa using hl
    have t2 : (ln == 0) = false := by rw [beq_eq_false_iff_ne]; exact hl
    have PP := Lib.hid (HNo.out hl _ GG.out)
    clear hl
    go_wp2_with fail
    (first | (refine bodyPost_ret (results_none rfl _ _ _) rfl ?_) | (refine bodyPost_end (results_none rfl _ _ _) rfl ?_))
    exact ⟨⟨_, rfl⟩, PP.out⟩
set_option maxRecDepth 100000 in
set_option maxHeartbeats 4000000 in
theorem rsk2_any (hb0 : Blk w gq 83 (rsC t s l b th head key 2 (some ⟨gr, 0, none⟩) sp fnd prev word came curr link whn)) (hR : Calls Tryz.prog 99 #[.pointer (some ⟨gr, 0, none⟩), .pointer (some ⟨g, 0, none⟩)] w fun e w' => (∃ u, e = .returned u) ∧ G w') (hb : ∀ W, G W → Blk W gq 83 (rsC t s l b th head key 2 (some ⟨gr, 0, none⟩) sp fnd prev word came curr link whn) ∧ Blk W gr 157 (RLr.cells ⟨ln, got, wd, wh⟩ th av)) (hw : W64 wd) (hwo : W64 word) (hno : ln ≠ 0 → ∀ W, G W → P W) (hset : ln = 0 → 0 ≤ byN wd → ∀ W w' gn, G W → W.heap.size ≤ gn → Blk w' gn 162 (rs0.cells th prev (clN word) (clN (wd % 4294967296))) → Blk w' gq 83 (rsC t s l b th head key 3 (some ⟨gr, 0, none⟩) (some ⟨gn, 0, none⟩) fnd prev word came curr wd whn) → Fr (fun b => b = gq) W w' → P w') (hkey : ln = 0 → ¬ 0 ≤ byN wd → ∀ W w', G W → Blk w' gq 83 (rsC t s l b th head key 4 (some ⟨gr, 0, none⟩) sp fnd prev word came curr wd whn) → Fr (fun b => b = gq) W w' → P w') :
    Calls Tryz.prog 30 #[.pointer (some ⟨gq, 0, none⟩), .pointer (some ⟨g, 0, none⟩)] w fun e w' => (∃ u, e = .returned u) ∧ P w' := by
  have c7 : w.cell? ⟨gq, 7, none⟩ = some (.int .i64 2) := hb0.cell 7
  have c8 : w.cell? ⟨gq, 8, none⟩ = some (.pointer (some ⟨gr, 0, none⟩)) := hb0.cell 8
  have HR := Lib.hid hR
  have HB := Lib.hid hb
  have HNo := Lib.hid hno
  have HSe := Lib.hid hset
  have HKe := Lib.hid hkey
  have HM : Hid (W64 (wd % 4294967296)) := Lib.hid (by unfold W64; omega)
  have HNs := Lib.hid (fun W => rnewSet_ok W th prev word (wd % 4294967296) hwo HM.out)
  have wm : wd.tmod 4294967296 = wd % 4294967296 := by rw [Int.tmod_eq_emod_of_nonneg hw.1]
  have wm2 : IntKind.u64.wrap (wd % 4294967296) = wd % 4294967296 := by have := HM.out; unfold W64 at this; exact u64w _ (by omega) (by omega)
  have HBy : Hid (∀ W, Calls Tryz.prog 100 #[.int .u64 wd] W fun e w' => e = .returned (.int .i64 (byN wd)) ∧ Ext W w') := Lib.hid (fun W => rby_any wd hw.1 hw.2 W)
  clear hb0 hR hb hno hset hkey hw hwo
  go_enter Tryz.func30, Tryz.ntmps30
  go_wp2_with fail
  refine HR.out.mono ?_
  rintro e w1 ⟨⟨u, rfl⟩, hg⟩
  have GG := Lib.hid hg
  have BB := Lib.hid (HB.out _ hg)
  clear hg c7 c8 HR HB
  have c8 : w1.cell? ⟨gq, 8, none⟩ = some (.pointer (some ⟨gr, 0, none⟩)) := BB.out.1.cell 8
  have r2 : w1.cell? ⟨gr, 2, none⟩ = some (.int .i64 ln) := BB.out.2.cell 2
  have r4 : w1.cell? ⟨gr, 4, none⟩ = some (.int .u64 wd) := BB.out.2.cell 4
  by_cases hl : ln = 0
  · subst hl
    have c15 : w1.cell? ⟨gq, 15, none⟩ = some (.int .u64 link) := BB.out.1.cell 15
    have c7 : w1.cell? ⟨gq, 7, none⟩ = some (.int .i64 2) := BB.out.1.cell 7
    have z15 : w1.frozen? ⟨gq, 15, none⟩ = false := BB.out.1.frozen 15
    have z7 : w1.frozen? ⟨gq, 7, none⟩ = false := BB.out.1.frozen 7
    have B3 : Hid (Blk ((w1.setCell ⟨gq, 15, none⟩ (.int .u64 wd)).setCell ⟨gq, 7, none⟩ (.int .i64 4)) gq 83 (rsC t s l b th head key 4 (some ⟨gr, 0, none⟩) sp fnd prev word came curr wd whn)) := Lib.hid ((BB.out.1.set 15 (.int .u64 wd)).set 7 (.int .i64 4))
    have F3 : Hid (Fr (fun b => b = gq) w1 ((w1.setCell ⟨gq, 15, none⟩ (.int .u64 wd)).setCell ⟨gq, 7, none⟩ (.int .i64 4))) := Lib.hid (((Fr.refl (fun b => b = gq) w1).setCell (p := ⟨gq, 15, none⟩) (Or.inl rfl) _).setCell (p := ⟨gq, 7, none⟩) (Or.inl rfl) _)
    have hlt := BB.out.1.lt
    go_upto_region 11 with fail
    generalize ((w1.setCell ⟨gq, 15, none⟩ (.int .u64 wd)).setCell ⟨gq, 7, none⟩ (.int .i64 4)) = w3 at *
    clear c7 c8 c15 z7 z15 r2 r4 hlt
    have c15 : w3.cell? ⟨gq, 15, none⟩ = some (.int .u64 wd) := B3.out.cell 15
    go_wp2_with fail
    refine (HBy.out _).mono ?_
    rintro e w4 ⟨rfl, x4⟩
    have B4 := Lib.hid (B3.out.ext x4)
    have F4 := Lib.hid (F3.out.then_ext x4)
    clear x4 c15 B3 F3
    generalize byN wd = by_ at *
    by_cases hy : 0 ≤ by_
    · have t1 : decide (0 ≤ by_) = true := by simpa using hy
      have HE := Lib.hid (HSe.out (by first | rfl | trivial) hy)
      have c4 : w4.cell? ⟨gq, 4, none⟩ = some (.int .i64 th) := B4.out.cell 4
      have c11 : w4.cell? ⟨gq, 11, none⟩ = some (.int .i64 prev) := B4.out.cell 11
      have c12 : w4.cell? ⟨gq, 12, none⟩ = some (.int .u64 word) := B4.out.cell 12
      have c15 : w4.cell? ⟨gq, 15, none⟩ = some (.int .u64 wd) := B4.out.cell 15
      have M : Hid (Blk w4.drew gq 83 (rsC t s l b th head key 4 (some ⟨gr, 0, none⟩) sp fnd prev word came curr wd whn) ∧ Fr (fun b => b = gq) w1 w4.drew) := Lib.hid ⟨B4.out.ext ((Ext.refl w4).drew), F4.out.then_ext ((Ext.refl w4).drew)⟩
      have HP : Hid (∀ W cs, cs[4]? = some (.int .i64 th) → cs[11]? = some (.int .i64 prev) → cs[12]? = some (.int .u64 word) → cs[15]? = some (.int .u64 wd) → Blk W gq 83 cs → W.cell? ⟨gq, 4, none⟩ = some (.int .i64 th) ∧ W.cell? ⟨gq, 11, none⟩ = some (.int .i64 prev) ∧ W.cell? ⟨gq, 12, none⟩ = some (.int .u64 word) ∧ W.cell? ⟨gq, 15, none⟩ = some (.int .u64 wd)) := Lib.hid (fun W cs h1 h2 h3 h4 bb => ⟨(bb.cell 4).trans h1, (bb.cell 11).trans h2, (bb.cell 12).trans h3, (bb.cell 15).trans h4⟩)
      clear hy HKe HSe HNo
      go_wp2_with fail
      go_region_held3 (fun W => W.cell? ⟨gq, 4, none⟩ = some (.int .i64 th) ∧ W.cell? ⟨gq, 11, none⟩ = some (.int .i64 prev) ∧ W.cell? ⟨gq, 12, none⟩ = some (.int .u64 word) ∧ W.cell? ⟨gq, 15, none⟩ = some (.int .u64 wd)) (first | exact HP.out _ _ rfl rfl rfl rfl M.out.1 | exact HP.out _ _ rfl rfl rfl rfl BS.out | go_keep) (first
        | (go_at_call 102; refine (HNs.out _).mono ?_; rintro e w5 ⟨gn, rfl, hgn, bn, x5⟩; have HN : Hid (gn ≠ gq ∧ w1.heap.size ≤ gn) := Lib.hid (by have h1 := M.out.1.lt; have h2 := M.out.2.size; exact ⟨by omega, by omega⟩); have b5 := M.out.1.ext x5; have c9 : w5.cell? ⟨gq, 9, none⟩ = some (.pointer sp) := b5.cell 9; have z9 : w5.frozen? ⟨gq, 9, none⟩ = false := b5.frozen 9; have BS := Lib.hid (b5.set 9 (.pointer (some ⟨gn, 0, none⟩))); have FS := Lib.hid ((M.out.2.then_ext x5).setCell (p := ⟨gq, 9, none⟩) (Or.inl rfl) (.pointer (some ⟨gn, 0, none⟩))); have NS := Lib.hid (bn.far (p := ⟨gq, 9, none⟩) HN.out.1 (.pointer (some ⟨gn, 0, none⟩))); replace M := Lib.hid (And.intro b5 (M.out.2.then_ext x5)); clear b5 x5 bn hgn))
      all_goals
        clear M c4 c11 c12 c15 c9 z9
        generalize w5.setCell ⟨gq, 9, none⟩ (.pointer (some ⟨gn, 0, none⟩)) = w6 at *
        have c7 : w6.cell? ⟨gq, 7, none⟩ = some (.int .i64 4) := BS.out.cell 7
        have z7 : w6.frozen? ⟨gq, 7, none⟩ = false := BS.out.frozen 7
        have B6 := Lib.hid (BS.out.set 7 (.int .i64 3))
        have F6 := Lib.hid (FS.out.setCell (p := ⟨gq, 7, none⟩) (Or.inl rfl) (.int .i64 3))
        have N6 := Lib.hid (NS.out.far (p := ⟨gq, 7, none⟩) HN.out.1 (.int .i64 3))
        go_wp2_with fail
        (first | (refine bodyPost_ret (results_none rfl _ _ _) rfl ?_) | (refine bodyPost_end (results_none rfl _ _ _) rfl ?_))
        exact ⟨⟨_, rfl⟩, HE.out _ _ _ GG.out HN.out.2 N6.out B6.out F6.out⟩
    · have t1 : decide (0 ≤ by_) = false := by simpa using hy
      have PP := Lib.hid (HKe.out (by first | rfl | trivial) (by omega) _ _ GG.out B4.out F4.out)
      clear hy HKe HSe HNo
      go_wp2_with fail
      (first | (refine bodyPost_ret (results_none rfl _ _ _) rfl ?_) | (refine bodyPost_end (results_none rfl _ _ _) rfl ?_))
      exact ⟨⟨_, rfl⟩, PP.out⟩
  · have t1 : decide (ln = 0) = false := by simpa using hl
    have t2 : (ln == 0) = false := by rw [beq_eq_false_iff_ne]; exact hl
    have PP := Lib.hid (HNo.out hl _ GG.out)
    clear hl
    go_wp2_with fail
    (first | (refine bodyPost_ret (results_none rfl _ _ _) rfl ?_) | (refine bodyPost_end (results_none rfl _ _ _) rfl ?_))
    exact ⟨⟨_, rfl⟩, PP.out⟩
end
end Go.Proofs.YtbicloceaddinaaGreat


/- The document's Seek: its lines 3 and 4, each by what its callees leave. Conditions: those that each theorem names. -/
namespace Go.Proofs.YtbicloceaddinaaGreat
open Go.ChangeShapes Go.WideShapes Go.ChangeAt Go.RowKit
set_option linter.unusedVariables false
section
variable {w w' : World} {gq g gr gp : Nat} {t s l b : Nat} {th head key line : Int} {rp sp : Option Addr} {fnd : Bool} {prev word came curr link whn : Int} {P G : World → Prop} {ln got wd wh av old nw wr : Int} {put : Bool} {B : Nat} {R : RefB} {rv : Value} {st : MSt}
set_option maxRecDepth 100000 in
set_option maxHeartbeats 4000000 in
theorem rsk3_any (hb0 : Blk w gq 83 (rsC t s l b th head key 3 rp (some ⟨gp, 0, none⟩) fnd prev word came curr link whn)) (hR : Calls Tryz.prog 103 #[.pointer (some ⟨gp, 0, none⟩), .pointer (some ⟨g, 0, none⟩)] w fun e w' => (∃ u, e = .returned u) ∧ G w') (hb : ∀ W, G W → Blk W gq 83 (rsC t s l b th head key 3 rp (some ⟨gp, 0, none⟩) fnd prev word came curr link whn) ∧ Blk W gp 162 (RLs.cells ⟨ln, put, wh, wr⟩ th av old nw)) (hw : W64 link) (hno : ln ≠ 0 → ∀ W, G W → P W) (hbeg : ln = 0 → put = false → ∀ W W', G W → Ext W W' → Calls Tryz.prog 98 #[.pointer (some ⟨gq, 0, none⟩)] W' fun e w' => (∃ u, e = .returned u) ∧ P w') (hon : ln = 0 → put = true → ∀ W W', G W → Ext W W' → Calls Tryz.prog 101 #[.pointer (some ⟨gq, 0, none⟩), .int .u64 (link % 4294967296), .int .i64 wh] W' fun e w' => (∃ u, e = .returned u) ∧ P w') :
    Calls Tryz.prog 30 #[.pointer (some ⟨gq, 0, none⟩), .pointer (some ⟨g, 0, none⟩)] w fun e w' => (∃ u, e = .returned u) ∧ P w' := by
  have c7 : w.cell? ⟨gq, 7, none⟩ = some (.int .i64 3) := hb0.cell 7
  have c9 : w.cell? ⟨gq, 9, none⟩ = some (.pointer (some ⟨gp, 0, none⟩)) := hb0.cell 9
  have HR := Lib.hid hR
  have HB := Lib.hid hb
  have HNo := Lib.hid hno
  have HBe := Lib.hid hbeg
  have HOn := Lib.hid hon
  have HM : Hid (W64 (link % 4294967296)) := Lib.hid (by unfold W64; omega)
  have wm : link.tmod 4294967296 = link % 4294967296 := by rw [Int.tmod_eq_emod_of_nonneg hw.1]
  have wm2 : IntKind.u64.wrap (link % 4294967296) = link % 4294967296 := by have := HM.out; unfold W64 at this; exact u64w _ (by omega) (by omega)
  obtain ⟨lm, hlm⟩ : ∃ lm, link % 4294967296 = lm := ⟨_, rfl⟩
  rw [hlm] at wm wm2 HOn
  clear hb0 hR hb hno hbeg hon hw HM
  go_enter Tryz.func30, Tryz.ntmps30
  go_wp2_with fail
  refine HR.out.mono ?_
  rintro e w1 ⟨⟨u, rfl⟩, hg⟩
  have GG := Lib.hid hg
  have BB := Lib.hid (HB.out _ hg)
  clear hg c7 c9 HR HB
  have c9 : w1.cell? ⟨gq, 9, none⟩ = some (.pointer (some ⟨gp, 0, none⟩)) := BB.out.1.cell 9
  have r2 : w1.cell? ⟨gp, 2, none⟩ = some (.int .i64 ln) := BB.out.2.cell 2
  have r5 : w1.cell? ⟨gp, 5, none⟩ = some (.bool put) := BB.out.2.cell 5
  by_cases hl : ln = 0
  · subst hl
    cases put
    · have HE := Lib.hid (HBe.out (by first | rfl | trivial) (by first | rfl | trivial) _ _ GG.out (Ext.refl _))
      clear HBe HOn HNo
      go_wp2_with fail
      refine HE.out.mono ?_
      rintro e w3 ⟨⟨u3, rfl⟩, hp⟩
      have PP := Lib.hid hp
      clear hp c9 r2 r5 HE
      go_wp2_with fail
      (first | (refine bodyPost_ret (results_none rfl _ _ _) rfl ?_) | (refine bodyPost_end (results_none rfl _ _ _) rfl ?_))
      exact ⟨⟨_, rfl⟩, PP.out⟩
    · have HE := Lib.hid (HOn.out (by first | rfl | trivial) (by first | rfl | trivial))
      have r6 : w1.cell? ⟨gp, 6, none⟩ = some (.int .i64 wh) := BB.out.2.cell 6
      have c15 : w1.cell? ⟨gq, 15, none⟩ = some (.int .u64 link) := BB.out.1.cell 15
      have xd : Ext w1 w1.drew := (Ext.refl w1).drew
      clear HBe HOn HNo
      go_wp2_with fail
      try rw [wm]
      try rw [hlm]
      go_region_with (first
        | (go_at_call 101; (try rw [wm]); (try rw [wm2]); (try rw [hlm]); refine (HE.out _ _ GG.out (by first | exact xd | exact Ext.refl _)).mono ?_; rintro e w3 ⟨⟨u3, rfl⟩, hp⟩; have PP := Lib.hid hp; clear hp))
      all_goals
        go_wp2_with fail
        (first | (refine bodyPost_ret (results_none rfl _ _ _) rfl ?_) | (refine bodyPost_end (results_none rfl _ _ _) rfl ?_))
        exact ⟨⟨_, rfl⟩, PP.out⟩
  · have t1 : decide (ln = 0) = false := by simpa using hl
    have t2 : (ln == 0) = false := by rw [beq_eq_false_iff_ne]; exact hl
    have PP := Lib.hid (HNo.out hl _ GG.out)
    clear hl
    go_wp2_with fail
    (first | (refine bodyPost_ret (results_none rfl _ _ _) rfl ?_) | (refine bodyPost_end (results_none rfl _ _ _) rfl ?_))
    exact ⟨⟨_, rfl⟩, PP.out⟩
end
end Go.Proofs.YtbicloceaddinaaGreat

