/- Layer 8: put of numbers. Conditions: those that each theorem names. -/
import Derived.Test.YthbngenjcgclgaaMod22
namespace Go.Proofs.Ythbngenjcgclgaa
open Go.ChangeShapes Go.WideShapes Go.ChangeAt Go.RowKit
set_option linter.unusedVariables false
theorem one_u32 {w : World} {g : Nat} {x : Int} (h : Blk w g 32 [.int .u32 x]) : ∀ j, j < [x].length → w.cell? ((⟨g, 0, none⟩ : Addr).add j) = some (.int .u32 ([x].getD j 0)) := fun j hj => by
  rw [at0]
  match j, hj with
  | 0, _ => exact h.cell 0
set_option maxRecDepth 100000 in
set_option maxHeartbeats 400000 in
theorem insEndI (w0 w : World) (v : Value) (g : Nat) (x : Int) (ps : List Int) (hz : ps.length ≤ 1000000) (hr : IRow w w0.heap.size v ps) (ext : Ext w0 w) (hc : Blk w g 32 [.int .u32 x]) :
    Calls Try.prog 33 #[v, .int .i64 (ps.length : Int), .slice (some ⟨g, 0, none⟩) 1 1] w (IOnto w0 w v (ps ++ [x])) := by
  have HC := Lib.hid hc
  have HR := Lib.hid (RowN.of_row hr)
  have hr2 := hr.2
  clear hr hc
  generalize hn : ps.length = n at *
  have HN := Lib.hid hn
  clear hn
  rcases hr2 with ⟨rfl, h0⟩ | ⟨q, c, cur, rfl, _, _, hnc, hcm, _, _⟩
  · subst h0
    go_enter Try.func33, Try.ntmps33
    go_wp2_with ((at_builtin; refine Hid.out ?_))
    refine Lib.hid ?_
    refine wpList_appN rfl _ _ 22 rfl 32 .u32 1 4 (.int .u32 0) u32_info rfl (by decide) (by decide) Try.underlying22 w0 w _ 0 ps (by rfl) HR.out ext ⟨g, 0, none⟩ 1 1 [x] (by rfl) rfl (one_u32 HC.out) (by omega) ?_
    intro v' w' h1 h2 h3 h4
    go_wp2_with fail
    go_ret
    exact ⟨v', rfl, h1.row, h2, h3, h4⟩
  · unfold maxLen at hcm
    rcases Nat.lt_or_eq_of_le hnc with hlt | heq
    · go_enter Try.func33, Try.ntmps33
      go_wp2_with ((at_builtin; refine Hid.out ?_))
      refine Lib.hid ?_
      refine wpList_appN rfl _ _ 22 rfl 32 .u32 1 4 (.int .u32 0) u32_info rfl (by decide) (by decide) Try.underlying22 w0 w _ n ps (by rfl) HR.out ext ⟨g, 0, none⟩ 1 1 [x] (by rfl) rfl (one_u32 HC.out) (by omega) ?_
      intro v' w' h1 h2 h3 h4
      go_wp2_with fail
      go_ret
      exact ⟨v', rfl, h1.row, h2, h3, h4⟩
    · subst heq
      go_enter Try.func33, Try.ntmps33
      go_wp2_with ((at_builtin; refine Hid.out ?_))
      refine Lib.hid ?_
      refine wpList_appN rfl _ _ 22 rfl 32 .u32 1 4 (.int .u32 0) u32_info rfl (by decide) (by decide) Try.underlying22 w0 w _ n ps (by rfl) HR.out ext ⟨g, 0, none⟩ 1 1 [x] (by rfl) rfl (one_u32 HC.out) (by omega) ?_
      intro v' w' h1 h2 h3 h4
      go_wp2_with fail
      go_ret
      exact ⟨v', rfl, h1.row, h2, h3, h4⟩
theorem insI_end (ps : List Int) (x : Int) : insI ps ps.length x = ps ++ [x] := by unfold insI; simp
theorem insP_end (ps : List Pr) (x : Pr) : insP ps ps.length x = ps ++ [x] := by unfold insP; simp
theorem insAnyI (w0 w : World) (v : Value) (g : Nat) (x : Int) (ps : List Int) (i : Nat) (hi : i ≤ ps.length) (hz : ps.length ≤ 1000000) (hr : IRow w w0.heap.size v ps) (ext : Ext w0 w) (hb : Blk w g 32 [.int .u32 x]) (hg : v.ownBlock ≠ some g) :
    Calls Try.prog 33 #[v, .int .i64 (i : Int), .slice (some ⟨g, 0, none⟩) 1 1] w (IOnto w0 w v (insI ps i x)) := by
  rcases Nat.lt_or_eq_of_le hi with h | h
  · exact insMidI w0 w v g x ps i h hz hr ext hb hg
  · subst h
    rw [insI_end]
    exact insEndI w0 w v g x ps hz hr ext hb
theorem insAnyP (w0 w : World) (v : Value) (g : Nat) (x : Pr) (ps : List Pr) (i : Nat) (hi : i ≤ ps.length) (hz : ps.length ≤ 1000000) (hr : PRow w w0.heap.size v ps) (ext : Ext w0 w) (hb : Blk w g 46 [.int .u32 x.1, .int .u32 x.2]) (hg : v.ownBlock ≠ some g) :
    Calls Try.prog 38 #[v, .int .i64 (i : Int), .slice (some ⟨g, 0, none⟩) 1 1] w (POnto w0 w v (insP ps i x)) := by
  rcases Nat.lt_or_eq_of_le hi with h | h
  · exact insMidP w0 w v g x ps i h hz hr ext hb hg
  · subst h
    rw [insP_end]
    exact insEnd_ok w0 w v g x.1 x.2 ps hz hr ext hb
theorem SetOk.same {w0 w W : World} {gs : Nat} {qv v mv : Value} {zs : List Int} (x0 : Ext w0 w) (hb : Blk w gs 25 [qv, v, mv]) (h : IRow w w0.heap.size v zs) (x : Ext w W) : SetOk w0 w gs qv v mv zs W v :=
  ⟨h.ext x, hb.ext x, x0.trans x, fun q hq _ hqo => ⟨x.block q hq, hqo⟩, x.size⟩
set_option maxRecDepth 100000 in
set_option maxHeartbeats 2000000 in
theorem put32_there (w0 w : World) (gs : Nat) (qv v mv : Value) (ps : List Int) (a : Int) (x0 : Ext w0 w) (hb : Blk w gs 25 [qv, v, mv]) (h : IRow w w0.heap.size v ps) (hn : ps.length ≤ 1000000) (hg : w0.heap.size ≤ gs) (hh : hasI ps a = true) :
    Calls Try.prog 24 #[.pointer (some ⟨gs, 1, none⟩), .int .u32 a, .func (.func 14) #[] #[]] w fun e w' => e = .returned (.tuple #[.int .u32 a, .bool true]) ∧ SetTo w0 w gs qv v mv ps w' := by
  have hgl := hb.lt
  have hg1 : ¬ gs = w.heap.size := by omega
  have hg2 : ¬ gs = w.heap.size + 1 := by omega
  have HH := Lib.hid h
  have HB := Lib.hid hb
  have X0 := Lib.hid x0
  have hB := x0.size
  have hff : foundI ps a = a := by unfold foundI; rw [hh]; rfl
  obtain ⟨A, c, rfl, hnc, hcm, hP⟩ := h.form
  obtain ⟨n, hl⟩ : ∃ n, ps.length = n := ⟨_, rfl⟩
  have HFi := Lib.hid (fun (W : World) (x : Ext w W) => (find32_ok W A ps.length c ps a rfl hn (hP.ext x)).mono fun e w' ⟨h1, h2⟩ => (⟨by rw [hff, hh] at h1; exact h1, h2.symm⟩ : e = Ending.returned (.tuple #[.int .u32 a, .bool true]) ∧ w' = W))
  have HPa := Lib.hid hP
  clear h hP hb x0 hh hff
  rw [hl] at HFi HH HB hn hnc  ⊢
  have HL := Lib.hid hl
  clear hl
  have y5 := (Blk.new w 43 [.func (.func 14) #[] #[]]).ext ((Ext.refl _).alloc (.cells #[.int .u32 a] 32))
  have y8 := Blk.new (w.alloc (.cells #[.func (.func 14) #[] #[]] 43)) 32 [.int .u32 a]
  rw [show (w.alloc (.cells #[.func (.func 14) #[] #[]] 43)).heap.size = w.heap.size + 1 by simp] at y8
  have x1 := ((Ext.refl w).alloc (.cells #[.func (.func 14) #[] #[]] 43)).alloc (.cells #[.int .u32 a] 32)
  have hcW := (HB.out.ext x1).cell 1
  have Y5 := Lib.hid y5
  have Y8 := Lib.hid y8
  have X1 := Lib.hid x1
  clear x1 y5 y8
  have hmf : ∀ (fn : Fn) (first cap : Array Value) (w : World), (Instr.makeFunc fn first cap).run Try.prog w = .ok (.func fn first cap) w := fun _ _ _ _ => rfl
  go_enter Try.func24, Try.ntmps24
  go_wp2_with fail
  refine (itself_ok a _).mono ?_
  rintro e w1 ⟨rfl, rfl⟩
  go_upto_region 2 with fail
  generalize (w.alloc (.cells #[.func (.func 14) #[] #[]] 43)).alloc (.cells #[.int .u32 a] 32) = W0 at *
  have k5 : W0.cell? ⟨w.heap.size, 0, none⟩ = some (.func (.func 14) #[] #[]) := Y5.out.cell 0
  have k8 : W0.cell? ⟨w.heap.size + 1, 0, none⟩ = some (.int .u32 a) := Y8.out.cell 0
  have hcw : W0.cell? ⟨gs, 1, none⟩ = some (.slice A n c) := hcW
  clear hcW
  go_quiet ((go_at_call 27; exact Calls.quiet_of_same (HFi.out _ (by first | exact X1.out | exact X1.out.drew | exact X1.out.trans (extN _ _)))))
  go_wp2_with fail
  go_ret2
  exact ⟨rfl, _, SetOk.same X0.out HB.out HH.out (X1.out.trans (extN _ _))⟩
set_option maxRecDepth 100000 in
set_option maxHeartbeats 2000000 in
theorem put32_end (w0 w : World) (gs : Nat) (qv v mv : Value) (ps : List Int) (a : Int) (x0 : Ext w0 w) (hb : Blk w gs 25 [qv, v, mv]) (h : IRow w w0.heap.size v ps) (hn : ps.length ≤ 1000000) (hg : w0.heap.size ≤ gs) (i : Nat) (hi : i ≤ ps.length) (hh : hasI ps a = false) (hidx : idxPI ps (PutI a) = -1) (hil : i = ps.length) :
    Calls Try.prog 24 #[.pointer (some ⟨gs, 1, none⟩), .int .u32 a, .func (.func 14) #[] #[]] w fun e w' => e = .returned (.tuple #[.int .u32 0, .bool false]) ∧ SetTo w0 w gs qv v mv (insI ps i a) w' := by
  have hgl := hb.lt
  have hg1 : ¬ gs = w.heap.size := by omega
  have hg2 : ¬ gs = w.heap.size + 1 := by omega
  have HH := Lib.hid h
  have HB := Lib.hid hb
  have X0 := Lib.hid x0
  have hB := x0.size
  have hff : foundI ps a = 0 := by unfold foundI; rw [hh]; rfl
  obtain ⟨A, c, rfl, hnc, hcm, hP⟩ := h.form
  obtain ⟨n, hl⟩ : ∃ n, ps.length = n := ⟨_, rfl⟩
  have HFi := Lib.hid (fun (W : World) (x : Ext w W) => (find32_ok W A ps.length c ps a rfl hn (hP.ext x)).mono fun e w' ⟨h1, h2⟩ => (⟨by rw [hff, hh] at h1; exact h1, h2.symm⟩ : e = Ending.returned (.tuple #[.int .u32 0, .bool false]) ∧ w' = W))
  have HPa := Lib.hid hP
  clear h hP hb x0 hh hff
  rw [hl] at HFi HH HB hn hnc hi hil ⊢
  have HL := Lib.hid hl
  clear hl
  have y5 := (Blk.new w 43 [.func (.func 14) #[] #[]]).ext ((Ext.refl _).alloc (.cells #[.int .u32 a] 32))
  have y8 := Blk.new (w.alloc (.cells #[.func (.func 14) #[] #[]] 43)) 32 [.int .u32 a]
  rw [show (w.alloc (.cells #[.func (.func 14) #[] #[]] 43)).heap.size = w.heap.size + 1 by simp] at y8
  have x1 := ((Ext.refl w).alloc (.cells #[.func (.func 14) #[] #[]] 43)).alloc (.cells #[.int .u32 a] 32)
  have hcW := (HB.out.ext x1).cell 1
  have Y5 := Lib.hid y5
  have Y8 := Lib.hid y8
  have X1 := Lib.hid x1
  clear x1 y5 y8
  have hmf : ∀ (fn : Fn) (first cap : Array Value) (w : World), (Instr.makeFunc fn first cap).run Try.prog w = .ok (.func fn first cap) w := fun _ _ _ _ => rfl
  go_enter Try.func24, Try.ntmps24
  go_wp2_with fail
  refine (itself_ok a _).mono ?_
  rintro e w1 ⟨rfl, rfl⟩
  go_upto_region 2 with fail
  generalize (w.alloc (.cells #[.func (.func 14) #[] #[]] 43)).alloc (.cells #[.int .u32 a] 32) = W0 at *
  have k5 : W0.cell? ⟨w.heap.size, 0, none⟩ = some (.func (.func 14) #[] #[]) := Y5.out.cell 0
  have k8 : W0.cell? ⟨w.heap.size + 1, 0, none⟩ = some (.int .u32 a) := Y8.out.cell 0
  have hcw : W0.cell? ⟨gs, 1, none⟩ = some (.slice A n c) := hcW
  clear hcW
  go_quiet ((go_at_call 27; exact Calls.quiet_of_same (HFi.out _ (by first | exact X1.out | exact X1.out.drew | exact X1.out.trans (extN _ _)))))
  have HX : Hid (∀ W, Ext W0 W → Calls Try.prog 31 #[.slice A n c, .func (.func 32) #[] #[.pointer (some ⟨w.heap.size, 0, none⟩), .pointer (some ⟨w.heap.size + 1, 0, none⟩)]] W fun e w' => e = .returned (.int .i64 (-1)) ∧ Ext W w') := Lib.hid (fun W y => by
    have := idxPut32_ok W A n c ps (PutI a) (.pointer (some ⟨w.heap.size, 0, none⟩)) (.pointer (some ⟨w.heap.size + 1, 0, none⟩)) HL.out hn (HPa.out.ext (X1.out.trans y)) (fun W' p x => putF32_ok W' p a w.heap.size (w.heap.size + 1) (((Y5.out.ext y).ext x).cell 0) (((Y8.out.ext y).ext x).cell 0))
    rw [hidx] at this
    exact this)
  clear HFi k5 k8 hidx
  go_wp2_with fail
  refine (HX.out _ (by first | exact extN _ _ | exact (Ext.refl _).drew)).mono ?_
  rintro e w3 ⟨rfl, x3⟩
  have X3 := Lib.hid (X1.out.trans ((extN W0 _).trans x3))
  have b3 := HB.out.ext X3.out
  have c3 : w3.cell? ⟨gs, 1, none⟩ = some (.slice A n c) := b3.cell 1
  have hgl3 : gs < w3.heap.size := b3.lt
  have hn3 : ¬ gs = w3.heap.size := by omega
  have R3 := Lib.hid (HH.out.ext X3.out)
  have hown : Hid (∀ q, (Value.slice A n c).ownBlock = some q → q < w3.heap.size) := Lib.hid (fun q hq => (World.ownsRow.lt R3.out q hq).2)
  have B3 := Lib.hid (b3.ext ((Ext.refl w3).alloc (.cells #[.int .u32 a] 32)))
  have HG : Hid (Calls Try.prog 33 #[.slice A n c, .int .i64 (n : Int), .slice (some ⟨w3.heap.size, 0, none⟩) 1 1] (w3.alloc (.cells #[.int .u32 a] 32)) (IOnto w0 (w3.alloc (.cells #[.int .u32 a] 32)) (.slice A n c) (insI ps i a))) := Lib.hid (by
    have := insAnyI w0 (w3.alloc (.cells #[.int .u32 a] 32)) (.slice A n c) w3.heap.size a ps i (by rw [HL.out]; omega) (by rw [HL.out]; exact hn) (R3.out.ext ((Ext.refl _).alloc _)) ((X0.out.trans X3.out).alloc _) (Blk.new w3 _ _) (fun hq => by have := hown.out _ hq; omega)
    rw [hil] at this
    rw [hil]
    exact this)
  have hgn : Hid ((Value.slice A n c).ownBlock ≠ some gs) := Lib.hid ((typed_row HH.out).ne_blk HB.out (by decide))
  clear x3 b3 hcw
  go_wp2_with fail
  refine HG.out.mono ?_
  rintro e w6 ⟨v', rfl, p6, x6, f6, s6⟩
  obtain ⟨A', c', rfl, _, _, _⟩ := p6.form
  have hsz : w3.heap.size + 1 ≤ w6.heap.size := by simpa using s6
  have b6 : Blk w6 gs 25 [qv, .slice A n c, mv] := (f6 gs (by simp; omega) hgn.out).1.trans B3.out
  have u0 : w6.cell? ⟨gs, 1, none⟩ = some (.slice A n c) := b6.cell 1
  have u1 : w6.frozen? ⟨gs, 1, none⟩ = false := b6.frozen 1
  have P6 := Lib.hid p6
  have X6 := Lib.hid x6
  have F6 := Lib.hid f6
  have B6 := Lib.hid b6
  generalize hm : (insI ps i a).length = m at *
  have HM := Lib.hid hm
  clear p6 x6 f6 s6 b6 c3 hm
  go_wp2_with fail
  go_ret2
  have fz : Fr (fun b => b = gs) w6 (w6.setCell ⟨gs, 1, none⟩ (.slice A' m c')) := Fr.setCell (S := fun b => b = gs) (p := ⟨gs, 1, none⟩) (Fr.refl _ w6) (Or.inl rfl) _
  have hv' : (Value.slice A' m c').ownBlock ≠ some gs := (F6.out gs (by simp; omega) hgn.out).2
  refine ⟨rfl, .slice A' m c', P6.out.fr fz (fun q hq e => hv' (by rw [← e]; exact hq)), B6.out.set 1 _, fz.ext X6.out (fun q e => by omega), fun q hq hqg hqo => ?_, ?_⟩
  · have hq3 : q < w3.heap.size := Nat.lt_of_lt_of_le hq X3.out.size
    obtain ⟨f1, f2⟩ := F6.out q (by simp; omega) hqo
    exact ⟨(fz.block q (by omega) hqg).trans (f1.trans ((((Ext.refl w3).alloc _).block q hq3).trans (X3.out.block q hq))), f2⟩
  · have h1 := X3.out.size
    have h2 := fz.size
    omega
set_option maxRecDepth 100000 in
set_option maxHeartbeats 2000000 in
theorem put32_mid (w0 w : World) (gs : Nat) (qv v mv : Value) (ps : List Int) (a : Int) (x0 : Ext w0 w) (hb : Blk w gs 25 [qv, v, mv]) (h : IRow w w0.heap.size v ps) (hn : ps.length ≤ 1000000) (hg : w0.heap.size ≤ gs) (i : Nat) (hi : i ≤ ps.length) (hh : hasI ps a = false) (hidx : idxPI ps (PutI a) = i) (hil : i < ps.length) :
    Calls Try.prog 24 #[.pointer (some ⟨gs, 1, none⟩), .int .u32 a, .func (.func 14) #[] #[]] w fun e w' => e = .returned (.tuple #[.int .u32 0, .bool false]) ∧ SetTo w0 w gs qv v mv (insI ps i a) w' := by
  have hgl := hb.lt
  have hg1 : ¬ gs = w.heap.size := by omega
  have hg2 : ¬ gs = w.heap.size + 1 := by omega
  have HH := Lib.hid h
  have HB := Lib.hid hb
  have X0 := Lib.hid x0
  have hB := x0.size
  have hff : foundI ps a = 0 := by unfold foundI; rw [hh]; rfl
  obtain ⟨A, c, rfl, hnc, hcm, hP⟩ := h.form
  obtain ⟨n, hl⟩ : ∃ n, ps.length = n := ⟨_, rfl⟩
  have HFi := Lib.hid (fun (W : World) (x : Ext w W) => (find32_ok W A ps.length c ps a rfl hn (hP.ext x)).mono fun e w' ⟨h1, h2⟩ => (⟨by rw [hff, hh] at h1; exact h1, h2.symm⟩ : e = Ending.returned (.tuple #[.int .u32 0, .bool false]) ∧ w' = W))
  have HPa := Lib.hid hP
  clear h hP hb x0 hh hff
  rw [hl] at HFi HH HB hn hnc hi hil ⊢
  have HL := Lib.hid hl
  clear hl
  have y5 := (Blk.new w 43 [.func (.func 14) #[] #[]]).ext ((Ext.refl _).alloc (.cells #[.int .u32 a] 32))
  have y8 := Blk.new (w.alloc (.cells #[.func (.func 14) #[] #[]] 43)) 32 [.int .u32 a]
  rw [show (w.alloc (.cells #[.func (.func 14) #[] #[]] 43)).heap.size = w.heap.size + 1 by simp] at y8
  have x1 := ((Ext.refl w).alloc (.cells #[.func (.func 14) #[] #[]] 43)).alloc (.cells #[.int .u32 a] 32)
  have hcW := (HB.out.ext x1).cell 1
  have Y5 := Lib.hid y5
  have Y8 := Lib.hid y8
  have X1 := Lib.hid x1
  clear x1 y5 y8
  have hmf : ∀ (fn : Fn) (first cap : Array Value) (w : World), (Instr.makeFunc fn first cap).run Try.prog w = .ok (.func fn first cap) w := fun _ _ _ _ => rfl
  go_enter Try.func24, Try.ntmps24
  go_wp2_with fail
  refine (itself_ok a _).mono ?_
  rintro e w1 ⟨rfl, rfl⟩
  go_upto_region 2 with fail
  generalize (w.alloc (.cells #[.func (.func 14) #[] #[]] 43)).alloc (.cells #[.int .u32 a] 32) = W0 at *
  have k5 : W0.cell? ⟨w.heap.size, 0, none⟩ = some (.func (.func 14) #[] #[]) := Y5.out.cell 0
  have k8 : W0.cell? ⟨w.heap.size + 1, 0, none⟩ = some (.int .u32 a) := Y8.out.cell 0
  have hcw : W0.cell? ⟨gs, 1, none⟩ = some (.slice A n c) := hcW
  clear hcW
  go_quiet ((go_at_call 27; exact Calls.quiet_of_same (HFi.out _ (by first | exact X1.out | exact X1.out.drew | exact X1.out.trans (extN _ _)))))
  have HX : Hid (∀ W, Ext W0 W → Calls Try.prog 31 #[.slice A n c, .func (.func 32) #[] #[.pointer (some ⟨w.heap.size, 0, none⟩), .pointer (some ⟨w.heap.size + 1, 0, none⟩)]] W fun e w' => e = .returned (.int .i64 (i : Int)) ∧ Ext W w') := Lib.hid (fun W y => by
    have := idxPut32_ok W A n c ps (PutI a) (.pointer (some ⟨w.heap.size, 0, none⟩)) (.pointer (some ⟨w.heap.size + 1, 0, none⟩)) HL.out hn (HPa.out.ext (X1.out.trans y)) (fun W' p x => putF32_ok W' p a w.heap.size (w.heap.size + 1) (((Y5.out.ext y).ext x).cell 0) (((Y8.out.ext y).ext x).cell 0))
    rw [hidx] at this
    exact this)
  clear HFi k5 k8 hidx
  go_wp2_with fail
  refine (HX.out _ (by first | exact extN _ _ | exact (Ext.refl _).drew)).mono ?_
  rintro e w3 ⟨rfl, x3⟩
  have X3 := Lib.hid (X1.out.trans ((extN W0 _).trans x3))
  have b3 := HB.out.ext X3.out
  have c3 : w3.cell? ⟨gs, 1, none⟩ = some (.slice A n c) := b3.cell 1
  have hgl3 : gs < w3.heap.size := b3.lt
  have hn3 : ¬ gs = w3.heap.size := by omega
  have R3 := Lib.hid (HH.out.ext X3.out)
  have hown : Hid (∀ q, (Value.slice A n c).ownBlock = some q → q < w3.heap.size) := Lib.hid (fun q hq => (World.ownsRow.lt R3.out q hq).2)
  have B3 := Lib.hid (b3.ext ((Ext.refl w3).alloc (.cells #[.int .u32 a] 32)))
  have HG : Hid (Calls Try.prog 33 #[.slice A n c, .int .i64 (i : Int), .slice (some ⟨w3.heap.size, 0, none⟩) 1 1] (w3.alloc (.cells #[.int .u32 a] 32)) (IOnto w0 (w3.alloc (.cells #[.int .u32 a] 32)) (.slice A n c) (insI ps i a))) := Lib.hid (by
    have := insAnyI w0 (w3.alloc (.cells #[.int .u32 a] 32)) (.slice A n c) w3.heap.size a ps i (by rw [HL.out]; omega) (by rw [HL.out]; exact hn) (R3.out.ext ((Ext.refl _).alloc _)) ((X0.out.trans X3.out).alloc _) (Blk.new w3 _ _) (fun hq => by have := hown.out _ hq; omega)
    exact this)
  have hgn : Hid ((Value.slice A n c).ownBlock ≠ some gs) := Lib.hid ((typed_row HH.out).ne_blk HB.out (by decide))
  clear x3 b3 hcw
  have hlt0 : ¬ (i : Int) < 0 := by omega
  have hlt1 : decide ((i : Int) < 0) = false := by simp
  go_wp2_with fail
  refine HG.out.mono ?_
  rintro e w6 ⟨v', rfl, p6, x6, f6, s6⟩
  obtain ⟨A', c', rfl, _, _, _⟩ := p6.form
  have hsz : w3.heap.size + 1 ≤ w6.heap.size := by simpa using s6
  have b6 : Blk w6 gs 25 [qv, .slice A n c, mv] := (f6 gs (by simp; omega) hgn.out).1.trans B3.out
  have u0 : w6.cell? ⟨gs, 1, none⟩ = some (.slice A n c) := b6.cell 1
  have u1 : w6.frozen? ⟨gs, 1, none⟩ = false := b6.frozen 1
  have P6 := Lib.hid p6
  have X6 := Lib.hid x6
  have F6 := Lib.hid f6
  have B6 := Lib.hid b6
  generalize hm : (insI ps i a).length = m at *
  have HM := Lib.hid hm
  clear p6 x6 f6 s6 b6 c3 hm
  go_wp2_with fail
  go_ret2
  have fz : Fr (fun b => b = gs) w6 (w6.setCell ⟨gs, 1, none⟩ (.slice A' m c')) := Fr.setCell (S := fun b => b = gs) (p := ⟨gs, 1, none⟩) (Fr.refl _ w6) (Or.inl rfl) _
  have hv' : (Value.slice A' m c').ownBlock ≠ some gs := (F6.out gs (by simp; omega) hgn.out).2
  refine ⟨rfl, .slice A' m c', P6.out.fr fz (fun q hq e => hv' (by rw [← e]; exact hq)), B6.out.set 1 _, fz.ext X6.out (fun q e => by omega), fun q hq hqg hqo => ?_, ?_⟩
  · have hq3 : q < w3.heap.size := Nat.lt_of_lt_of_le hq X3.out.size
    obtain ⟨f1, f2⟩ := F6.out q (by simp; omega) hqo
    exact ⟨(fz.block q (by omega) hqg).trans (f1.trans ((((Ext.refl w3).alloc _).block q hq3).trans (X3.out.block q hq))), f2⟩
  · have h1 := X3.out.size
    have h2 := fz.size
    omega
end Go.Proofs.Ythbngenjcgclgaa
