/- Package seek: a Seek's cells; what its parts are made of. Conditions: those that each theorem names. -/
import Derived.Test.YtolengkegjipaaaGreatKLkB
import Derived.Test.YtolengkegjipaaaGreatKRetE
import Derived.Test.YtolengkegjipaaaGreatKArA
import Derived.Laws.EntriesVeiled
import Derived.Deep.RegionHeld3
import Derived.Deep.MidRow
namespace Go.Proofs.YtolengkegjipaaaGreat
open Go.ChangeShapes Go.WideShapes Go.ChangeAt Go.RowKit
set_option linter.unusedVariables false
def skF (n : FuncId) (gs : Nat) : Value := .func (.func n) #[.pointer (some ⟨gs, 0, none⟩)] #[]
/-- A Seek's cells. -/
def skC (gl : Nat) (th head key : Int) (nx : Value) (rp pp : Option Addr) (fat fwd fwh hat hwd hwh : Int) (fnd : Bool) : List Value := [.pointer (some ⟨gl, 0, none⟩), .int .i64 th, .int .i64 head, .int .u32 key, nx, .pointer rp, .pointer pp, .int .i64 fat, .int .u64 fwd, .int .i64 fwh, .int .i64 hat, .int .u64 hwd, .int .i64 hwh, .bool fnd]
/-- Where the links and the keys of slots lie. -/
def nxtN (F : Nat → Int) (a : Int) : Int := wordAt (F 4) (F 18) (F 19) (F 20) a 3
def keyN (F : Nat → Int) (a : Int) : Int := wordAt (F 4) (F 18) (F 19) (F 20) a 1
theorem wordAt_rngP {v a d m n p : Int} (h0 : 0 ≤ v) (h1 : v ≤ 1000000) (ha : Small a) (hd : -1000 ≤ d ∧ d ≤ 1000) (hm : m ≤ 65536) (hp : 0 ≤ p ∧ p ≤ 8) : -2000000008 ≤ wordAt v a d m n p ∧ wordAt v a d m n p ≤ 2000000008 := by
  unfold wordAt
  obtain ⟨a0, a1⟩ := ha
  split
  · rename_i h
    obtain ⟨d0, d1⟩ := hd
    obtain ⟨n0, n1⟩ := h
    have e1 : n * d ≤ n * 1000 := Int.mul_le_mul_of_nonneg_left d1 n0
    have e2 : n * (-1000) ≤ n * d := Int.mul_le_mul_of_nonneg_left d0 n0
    omega
  · omega
theorem nxtN_rng {F : Nat → Int} (ok : Okay F) (a : Int) : -9223372036854775808 ≤ nxtN F a ∧ nxtN F a < 9223372036854775808 := by
  have h : -2000000008 ≤ wordAt (F 4) (F 18) (F 19) (F 20) a 3 ∧ wordAt (F 4) (F 18) (F 19) (F 20) a 3 ≤ 2000000008 := wordAt_rngP ok.v0 ok.v1 ok.r18.a ok.r18.d ok.r18.m (by decide)
  unfold nxtN
  omega
theorem keyN_rng {F : Nat → Int} (ok : Okay F) (a : Int) : -9223372036854775808 ≤ keyN F a ∧ keyN F a < 9223372036854775808 := by
  have h : -2000000008 ≤ wordAt (F 4) (F 18) (F 19) (F 20) a 1 ∧ wordAt (F 4) (F 18) (F 19) (F 20) a 1 ≤ 2000000008 := wordAt_rngP ok.v0 ok.v1 ok.r18.a ok.r18.d ok.r18.m (by decide)
  unfold keyN
  omega
theorem next_ok {F : Nat → Int} (ok : Okay F) (gl : Nat) (a : Int) (w : World) (hl : Blk w gl 97 (cellsF F)) :
    Calls Tryz.prog 18 #[.pointer (some ⟨gl, 0, none⟩), .int .i64 a] w fun e w' => e = .returned (.int .i64 (nxtN F a)) ∧ Ext w w' :=
  tNext_any (some ⟨gl, 0, none⟩) (cellsF F) (F 4) (F 18) (F 19) (F 20) a w (Or.inl ⟨gl, rfl, hl⟩) (cellsF_at F 4 (by omega)) ok.v0 ok.v1 ok.r18.a ok.r18.d ok.r18.m (cellsF_at F 18 (by omega)) (cellsF_at F 19 (by omega)) (cellsF_at F 20 (by omega))
theorem key_ok {F : Nat → Int} (ok : Okay F) (gl : Nat) (a : Int) (w : World) (hl : Blk w gl 97 (cellsF F)) :
    Calls Tryz.prog 111 #[.pointer (some ⟨gl, 0, none⟩), .int .i64 a] w fun e w' => e = .returned (.int .i64 (keyN F a)) ∧ Ext w w' :=
  tKey_any (some ⟨gl, 0, none⟩) (cellsF F) (F 4) (F 18) (F 19) (F 20) a w (Or.inl ⟨gl, rfl, hl⟩) (cellsF_at F 4 (by omega)) ok.v0 ok.v1 ok.r18.a ok.r18.d ok.r18.m (cellsF_at F 18 (by omega)) (cellsF_at F 19 (by omega)) (cellsF_at F 20 (by omega))
/-- Was the slot of a link taken away? By whom? -/
def byN (x : Int) : Int := x / 4294967296 % 128 - 1
def tkn (x : Int) : Bool := byN x != -1
/-- The link past a slot that was taken away. -/
def bhN (x : Int) : Int := x % 4294967296
theorem bhN_rng (x : Int) : W64 (bhN x) := by unfold bhN W64; omega
section
variable {w w' : World} {gs gl : Nat} {th head key : Int} {nx : Value} {rp pp : Option Addr} {fat fwd fwh hat hwd hwh : Int} {fnd : Bool}
set_option maxRecDepth 100000 in
set_option maxHeartbeats 4000000 in
theorem isTaken_ok (w : World) (x : Int) (hx : W64 x) : Calls Tryz.prog 75 #[.int .u64 x] w fun e w' => e = .returned (.bool (tkn x)) ∧ Ext w w' := by
  have HB : Hid (∀ W, Calls Tryz.prog 89 #[.int .u64 x] W fun e w' => e = .returned (.int .i64 (byN x)) ∧ Ext W w') := Lib.hid (fun W => by_any x hx.1 hx.2 W)
  have HT : Hid (tkn x = (byN x != -1)) := Lib.hid rfl
  generalize tkn x = tk at *
  generalize byN x = b at *
  go_enter Tryz.func75, Tryz.ntmps75
  go_wp2_with fail
  refine (HB.out _).mono ?_
  rintro e w1 ⟨rfl, x1⟩
  have X1 := Lib.hid x1
  clear x1
  go_wp2_with fail
  go_ret
  exact ⟨by rw [HT.out]; rfl, X1.out⟩
set_option maxRecDepth 100000 in
set_option maxHeartbeats 4000000 in
theorem skSlot_ok (c8 : w.cell? ⟨gs, 8, none⟩ = some (.int .u64 fwd)) (hx : W64 fwd) : Calls Tryz.prog 37 #[.pointer (some ⟨gs, 0, none⟩)] w fun e w' => e = .returned (.int .i64 (toN fwd)) ∧ Ext w w' := by
  have HB : Hid (∀ W, Calls Tryz.prog 59 #[.int .u64 fwd] W fun e w' => e = .returned (.int .i64 (toN fwd)) ∧ Ext W w') := Lib.hid (fun W => to_any fwd hx.1 hx.2 W)
  generalize toN fwd = b at *
  go_enter Tryz.func37, Tryz.ntmps37
  go_wp2_with fail
  refine (HB.out _).mono ?_
  rintro e w1 ⟨rfl, x1⟩
  have X1 := Lib.hid x1
  clear x1
  go_wp2_with fail
  go_ret
  exact ⟨rfl, X1.out⟩
set_option maxRecDepth 100000 in
set_option maxHeartbeats 4000000 in
theorem skBehind_ok (c11 : w.cell? ⟨gs, 11, none⟩ = some (.int .u64 hwd)) (hx : W64 hwd) : Calls Tryz.prog 98 #[.pointer (some ⟨gs, 0, none⟩)] w fun e w' => e = .returned (.int .u64 (bhN hwd)) ∧ Ext w w' := by
  have htr := toN_rng hx
  have HT : Hid (∀ W, Calls Tryz.prog 59 #[.int .u64 hwd] W fun e w' => e = .returned (.int .i64 (toN hwd)) ∧ Ext W w') := Lib.hid (fun W => to_any hwd hx.1 hx.2 W)
  have HB : Hid (∀ W, Calls Tryz.prog 21 #[.int .i64 (toN hwd), .int .i64 (-1)] W fun e w' => e = .returned (.int .u64 (bhN hwd)) ∧ Ext W w') := Lib.hid (fun W => (link_any (toN hwd) (-1) (by omega) (by omega) (by decide) (by decide) W).mono (by
    rintro e w' ⟨rfl, x⟩
    refine ⟨?_, x⟩
    unfold bhN toN
    congr 2
    omega))
  generalize bhN hwd = b at *
  generalize toN hwd = c at *
  go_enter Tryz.func98, Tryz.ntmps98
  go_wp2_with fail
  refine (HT.out _).mono ?_
  rintro e w1 ⟨rfl, x1⟩
  have X1 := Lib.hid x1
  clear x1
  go_wp2_with fail
  refine (HB.out _).mono ?_
  rintro e w2 ⟨rfl, x2⟩
  have X2 := Lib.hid (X1.out.trans x2)
  clear x2
  go_wp2_with fail
  go_ret
  exact ⟨rfl, X2.out⟩
set_option maxRecDepth 100000 in
set_option maxHeartbeats 4000000 in
theorem skDone_no (n : FuncId) (c4 : w.cell? ⟨gs, 4, none⟩ = some (skF n gs)) : Calls Tryz.prog 13 #[.pointer (some ⟨gs, 0, none⟩)] w fun e w' => e = .returned (.bool false) ∧ w = w' := by
  unfold skF at c4
  have he := fun W => funcNe (n := n) (gt := gs) W
  go_enter Tryz.func13, Tryz.ntmps13
  go_wp2_with fail
  go_ret
  exact ⟨rfl, rfl⟩
set_option maxRecDepth 100000 in
set_option maxHeartbeats 4000000 in
theorem skDone_yes (c4 : w.cell? ⟨gs, 4, none⟩ = some .nilFunc) : Calls Tryz.prog 13 #[.pointer (some ⟨gs, 0, none⟩)] w fun e w' => e = .returned (.bool true) ∧ w = w' := by
  have he := fun W => funcEq W
  go_enter Tryz.func13, Tryz.ntmps13
  go_wp2_with fail
  go_ret
  exact ⟨rfl, rfl⟩
set_option maxRecDepth 100000 in
set_option maxHeartbeats 4000000 in
theorem reads_ok (at_ : Int) (n : FuncId) (hb : Blk w gs 86 (skC gl th head key nx rp pp fat fwd fwh hat hwd hwh fnd)) :
    Calls Tryz.prog 55 #[.pointer (some ⟨gs, 0, none⟩), .int .i64 at_, skF n gs] w fun e w' => (∃ u, e = .returned u) ∧ ∃ gn, w.heap.size ≤ gn ∧ Blk w' gn 147 (LrM.cells ⟨0, 0, 0, false⟩ th at_) ∧ Blk w' gs 86 (skC gl th head key (skF n gs) (some ⟨gn, 0, none⟩) pp fat fwd fwh at_ 0 0 fnd) ∧ Fr (fun b => b = gs) w w' := by
  have hlt := hb.lt
  have c10 : w.cell? ⟨gs, 10, none⟩ = some (.int .i64 hat) := hb.cell 10
  have c11 : w.cell? ⟨gs, 11, none⟩ = some (.int .u64 hwd) := hb.cell 11
  have c12 : w.cell? ⟨gs, 12, none⟩ = some (.int .i64 hwh) := hb.cell 12
  have z10 : w.frozen? ⟨gs, 10, none⟩ = false := hb.frozen 10
  have z11 : w.frozen? ⟨gs, 11, none⟩ = false := hb.frozen 11
  have z12 : w.frozen? ⟨gs, 12, none⟩ = false := hb.frozen 12
  have B1 : Hid (Blk (((w.setCell ⟨gs, 10, none⟩ (.int .i64 at_)).setCell ⟨gs, 10 + 1, none⟩ (.int .u64 0)).setCell ⟨gs, 10 + 2, none⟩ (.int .i64 0)) gs 86 (skC gl th head key nx rp pp fat fwd fwh at_ 0 0 fnd)) := Lib.hid (((hb.set 10 (.int .i64 at_)).set 11 (.int .u64 0)).set 12 (.int .i64 0))
  have F1 : Hid (Fr (fun b => b = gs) w (((w.setCell ⟨gs, 10, none⟩ (.int .i64 at_)).setCell ⟨gs, 10 + 1, none⟩ (.int .u64 0)).setCell ⟨gs, 10 + 2, none⟩ (.int .i64 0))) := Lib.hid ((((Fr.refl (fun b => b = gs) w).setCell (p := ⟨gs, 10, none⟩) (Or.inl rfl) _).setCell (p := ⟨gs, 11, none⟩) (Or.inl rfl) _).setCell (p := ⟨gs, 12, none⟩) (Or.inl rfl) _)
  unfold skF
  clear hb
  go_enter Tryz.func55, Tryz.ntmps55
  go_upto_region 1 with fail
  generalize ((w.setCell ⟨gs, 10, none⟩ (.int .i64 at_)).setCell ⟨gs, 10 + 1, none⟩ (.int .u64 0)).setCell ⟨gs, 10 + 2, none⟩ (.int .i64 0) = w1 at *
  clear c10 c11 c12 z10 z11 z12
  have d1 : w1.cell? ⟨gs, 1, none⟩ = some (.int .i64 th) := B1.out.cell 1
  go_wp2_with fail
  refine (newRead_ok w1 th at_).mono ?_
  rintro e w2 ⟨gn, rfl, lg, bg, x2⟩
  have B2 := Lib.hid (B1.out.ext x2)
  have F2 := Lib.hid (F1.out.then_ext x2)
  have HN : Hid (gn ≠ gs ∧ w.heap.size ≤ gn) := Lib.hid (by have := F1.out.size; exact ⟨by omega, by omega⟩)
  have G2 := Lib.hid bg
  have d5 : w2.cell? ⟨gs, 5, none⟩ = some (.pointer rp) := B2.out.cell 5
  have e5 : w2.frozen? ⟨gs, 5, none⟩ = false := B2.out.frozen 5
  have b3 := B2.out.set 5 (.pointer (some ⟨gn, 0, none⟩))
  have d4 : (w2.setCell ⟨gs, 5, none⟩ (.pointer (some ⟨gn, 0, none⟩))).cell? ⟨gs, 4, none⟩ = some nx := b3.cell 4
  have e4 : (w2.setCell ⟨gs, 5, none⟩ (.pointer (some ⟨gn, 0, none⟩))).frozen? ⟨gs, 4, none⟩ = false := b3.frozen 4
  have B4 : Hid (Blk ((w2.setCell ⟨gs, 5, none⟩ (.pointer (some ⟨gn, 0, none⟩))).setCell ⟨gs, 4, none⟩ (.func (.func n) #[.pointer (some ⟨gs, 0, none⟩)] #[])) gs 86 (skC gl th head key (.func (.func n) #[.pointer (some ⟨gs, 0, none⟩)] #[]) (some ⟨gn, 0, none⟩) pp fat fwd fwh at_ 0 0 fnd)) := Lib.hid (b3.set 4 (.func (.func n) #[.pointer (some ⟨gs, 0, none⟩)] #[]))
  have F4 := Lib.hid ((F2.out.setCell (p := ⟨gs, 5, none⟩) (Or.inl rfl) (.pointer (some ⟨gn, 0, none⟩))).setCell (p := ⟨gs, 4, none⟩) (Or.inl rfl) (.func (.func n) #[.pointer (some ⟨gs, 0, none⟩)] #[]))
  have G4 := Lib.hid ((G2.out.far (p := ⟨gs, 5, none⟩) HN.out.1 (.pointer (some ⟨gn, 0, none⟩))).far (p := ⟨gs, 4, none⟩) HN.out.1 (.func (.func n) #[.pointer (some ⟨gs, 0, none⟩)] #[]))
  clear b3 bg x2 lg d1 B1 F1
  go_wp2_with fail
  (first | (refine bodyPost_ret (results_none rfl _ _ _) rfl ?_) | (refine bodyPost_end (results_none rfl _ _ _) rfl ?_))
  exact ⟨⟨_, rfl⟩, gn, HN.out.2, G4.out, B4.out, F4.out⟩
set_option maxRecDepth 100000 in
set_option maxHeartbeats 4000000 in
theorem begin_ok (hb : Blk w gs 86 (skC gl th head key nx rp pp fat fwd fwh hat hwd hwh fnd)) :
    Calls Tryz.prog 33 #[.pointer (some ⟨gs, 0, none⟩)] w fun e w' => (∃ u, e = .returned u) ∧ ∃ gn, w.heap.size ≤ gn ∧ Blk w' gn 147 (LrM.cells ⟨0, 0, 0, false⟩ th head) ∧ Blk w' gs 86 (skC gl th head key (skF 56 gs) (some ⟨gn, 0, none⟩) pp fat fwd fwh head 0 0 fnd) ∧ Fr (fun b => b = gs) w w' := by
  have HR := Lib.hid (reads_ok head 56 hb)
  have c2 : w.cell? ⟨gs, 2, none⟩ = some (.int .i64 head) := hb.cell 2
  unfold skF at *
  clear hb
  go_enter Tryz.func33, Tryz.ntmps33
  go_wp2_with fail
  refine HR.out.mono ?_
  rintro e w1 ⟨⟨u, rfl⟩, hp⟩
  have PP := Lib.hid hp
  clear hp c2
  go_wp2_with fail
  (first | (refine bodyPost_ret (results_none rfl _ _ _) rfl ?_) | (refine bodyPost_end (results_none rfl _ _ _) rfl ?_))
  exact ⟨⟨_, rfl⟩, PP.out⟩
set_option maxRecDepth 100000 in
set_option maxHeartbeats 4000000 in
theorem newSeek_ok (w : World) (gl : Nat) (th head key : Int) :
    Calls Tryz.prog 9 #[.pointer (some ⟨gl, 0, none⟩), .int .i64 th, .int .i64 head, .int .u32 key] w fun e w' => ∃ gs gn, e = .returned (.pointer (some ⟨gs, 0, none⟩)) ∧ w.heap.size ≤ gs ∧ gs < gn ∧ Blk w' gn 147 (LrM.cells ⟨0, 0, 0, false⟩ th head) ∧ Blk w' gs 86 (skC gl th head key (skF 56 gs) (some ⟨gn, 0, none⟩) none 0 0 0 head 0 0 false) ∧ Ext w w' := by
  have B1 := Lib.hid (Blk.new w 86 (skC gl th head key .nilFunc none none 0 0 0 0 0 0 false))
  have X1 := Lib.hid ((Ext.refl w).alloc (.cells (skC gl th head key .nilFunc none none 0 0 0 0 0 0 false).toArray 86))
  go_enter Tryz.func9, Tryz.ntmps9
  go_upto_region 2 with fail
  change Code.wp _ _ _ _ (w.alloc (.cells (skC gl th head key .nilFunc none none 0 0 0 0 0 0 false).toArray 86))
  generalize w.alloc (.cells (skC gl th head key .nilFunc none none 0 0 0 0 0 0 false).toArray 86) = w1 at *
  obtain ⟨gs, hgs⟩ : ∃ gs, w.heap.size = gs := ⟨_, rfl⟩
  have HG : Hid (w.heap.size ≤ gs) := Lib.hid (by omega)
  rw [hgs] at B1
  rw [hgs]
  clear hgs
  have hlt := B1.out.lt
  go_wp2_with fail
  refine (begin_ok B1.out).mono ?_
  rintro e w2 ⟨⟨u, rfl⟩, gn, hgn, bn, bs, fr⟩
  have BN := Lib.hid bn
  have BS := Lib.hid bs
  have HN : Hid (gs < gn) := Lib.hid (by omega)
  have X2 := Lib.hid (fr.ext X1.out (fun g hg => by rw [hg]; exact HG.out))
  clear bn bs fr hgn hlt
  go_wp2_with fail
  go_ret
  exact ⟨gs, gn, rfl, HG.out, HN.out, BN.out, BS.out, X2.out⟩
end
end Go.Proofs.YtolengkegjipaaaGreat


/- Package seek: follow, goesOn, and the parts of a step. Conditions: those that each theorem names. -/
namespace Go.Proofs.YtolengkegjipaaaGreat
open Go.ChangeShapes Go.WideShapes Go.ChangeAt Go.RowKit
set_option linter.unusedVariables false
theorem IsMem.holdT {Q Q' : Nat → Prop} {wb w0 w w' : World} {gm : Nat} {dv pv : Value} {s : MSt} {S : Nat → Prop} (h : IsMem Q wb w0 w gm dv pv s) (f : Fr S w w') (hS : ∀ g, S g → Q g) (h0 : ∀ g, S g → w0.heap.size ≤ g) (hQ : ∀ g, Q' g → g < w'.heap.size ∧ (Q g ∨ w.heap.size ≤ g)) : IsMem Q' w' w0 w' gm dv pv s := by
  have h' := h.turn f hS h0
  have hp : ∀ g, pv.ownBlock = some g → g < w.heap.size := fun g hg => (World.ownsRow.lt h.pas g hg).2
  refine ⟨h.g0, h'.blk, h'.pas, ?_, h.pm, ?_, h.lp, h.ll⟩
  · refine h.dev.turnM (S := S) (f.ext h.lt.1 h0) f (fun g hs => Or.inr (Or.inr (hS g hs))) (fun g hg => ?_)
    rcases hg with rfl | hg | hg
    · exact ⟨h'.blk.lt, Or.inl (Or.inl rfl)⟩
    · exact ⟨Nat.lt_of_lt_of_le (hp g hg) f.size, Or.inl (Or.inr (Or.inl hg))⟩
    · exact ⟨(hQ g hg).1, (hQ g hg).2.elim (fun h2 => Or.inl (Or.inr (Or.inr h2))) Or.inr⟩
  · intro g hg
    obtain ⟨h1, h2 | h2⟩ := hQ g hg
    · exact ⟨(h.q g h2).1, (h.q g h2).2.1, rfl⟩
    · refine ⟨fun e => ?_, fun e => ?_, rfl⟩
      · have := h.blk.lt; omega
      · have := hp g e; omega
section
variable {w w' : World} {gs gl : Nat} {th head key : Int} {nx : Value} {rp pp : Option Addr} {fat fwd fwh hat hwd hwh : Int} {fnd : Bool} {F : Nat → Int}
set_option maxRecDepth 100000 in
set_option maxHeartbeats 4000000 in
theorem follow_ok (ok : Okay F) (a v u : Int) (hv : W64 v) (hl : Blk w gl 97 (cellsF F)) (nlp : gl ≠ gs) (hb : Blk w gs 86 (skC gl th head key nx rp pp fat fwd fwh hat hwd hwh fnd)) :
    Calls Tryz.prog 76 #[.pointer (some ⟨gs, 0, none⟩), .agg #[.int .i64 a, .int .u64 v, .int .i64 u]] w fun e w' => (∃ z, e = .returned z) ∧ Fr (fun b => b = gs) w w' ∧ ((toN v = -1 ∧ Blk w' gs 86 (skC gl th head key .nilFunc rp pp a v u 0 0 0 fnd)) ∨ (¬ toN v = -1 ∧ ∃ gn, w.heap.size ≤ gn ∧ Blk w' gn 147 (LrM.cells ⟨0, 0, 0, false⟩ th (nxtN F (toN v))) ∧ Blk w' gs 86 (skC gl th head key (skF 90 gs) (some ⟨gn, 0, none⟩) pp a v u (nxtN F (toN v)) 0 0 fnd))) := by
  have hlt := hb.lt
  have x0 := (Ext.refl w).alloc (.cells #[.int .i64 a, .int .u64 v, .int .i64 u] 84)
  have bp := Blk.new w 84 [.int .i64 a, .int .u64 v, .int .i64 u]
  have b0 := hb.ext x0
  have p0 : (w.alloc (.cells #[.int .i64 a, .int .u64 v, .int .i64 u] 84)).cell? ⟨w.heap.size, 0, none⟩ = some (.int .i64 a) := bp.cell 0
  have p1 : (w.alloc (.cells #[.int .i64 a, .int .u64 v, .int .i64 u] 84)).cell? ⟨w.heap.size, 1, none⟩ = some (.int .u64 v) := bp.cell 1
  have p2 : (w.alloc (.cells #[.int .i64 a, .int .u64 v, .int .i64 u] 84)).cell? ⟨w.heap.size, 2, none⟩ = some (.int .i64 u) := bp.cell 2
  have c7 : (w.alloc (.cells #[.int .i64 a, .int .u64 v, .int .i64 u] 84)).cell? ⟨gs, 7, none⟩ = some (.int .i64 fat) := b0.cell 7
  have z7 : (w.alloc (.cells #[.int .i64 a, .int .u64 v, .int .i64 u] 84)).frozen? ⟨gs, 7, none⟩ = false := b0.frozen 7
  have c8 : (w.alloc (.cells #[.int .i64 a, .int .u64 v, .int .i64 u] 84)).cell? ⟨gs, 8, none⟩ = some (.int .u64 fwd) := b0.cell 8
  have z8 : (w.alloc (.cells #[.int .i64 a, .int .u64 v, .int .i64 u] 84)).frozen? ⟨gs, 8, none⟩ = false := b0.frozen 8
  have c9 : (w.alloc (.cells #[.int .i64 a, .int .u64 v, .int .i64 u] 84)).cell? ⟨gs, 9, none⟩ = some (.int .i64 fwh) := b0.cell 9
  have z9 : (w.alloc (.cells #[.int .i64 a, .int .u64 v, .int .i64 u] 84)).frozen? ⟨gs, 9, none⟩ = false := b0.frozen 9
  have c10 : (w.alloc (.cells #[.int .i64 a, .int .u64 v, .int .i64 u] 84)).cell? ⟨gs, 10, none⟩ = some (.int .i64 hat) := b0.cell 10
  have z10 : (w.alloc (.cells #[.int .i64 a, .int .u64 v, .int .i64 u] 84)).frozen? ⟨gs, 10, none⟩ = false := b0.frozen 10
  have c11 : (w.alloc (.cells #[.int .i64 a, .int .u64 v, .int .i64 u] 84)).cell? ⟨gs, 11, none⟩ = some (.int .u64 hwd) := b0.cell 11
  have z11 : (w.alloc (.cells #[.int .i64 a, .int .u64 v, .int .i64 u] 84)).frozen? ⟨gs, 11, none⟩ = false := b0.frozen 11
  have c12 : (w.alloc (.cells #[.int .i64 a, .int .u64 v, .int .i64 u] 84)).cell? ⟨gs, 12, none⟩ = some (.int .i64 hwh) := b0.cell 12
  have z12 : (w.alloc (.cells #[.int .i64 a, .int .u64 v, .int .i64 u] 84)).frozen? ⟨gs, 12, none⟩ = false := b0.frozen 12
  have B1 : Hid (Blk (((((((w.alloc (.cells #[.int .i64 a, .int .u64 v, .int .i64 u] 84)).setCell ⟨gs, 7, none⟩ (.int .i64 a)).setCell ⟨gs, 7 + 1, none⟩ (.int .u64 v)).setCell ⟨gs, 7 + 2, none⟩ (.int .i64 u)).setCell ⟨gs, 10, none⟩ (.int .i64 0)).setCell ⟨gs, 10 + 1, none⟩ (.int .u64 0)).setCell ⟨gs, 10 + 2, none⟩ (.int .i64 0)) gs 86 (skC gl th head key nx rp pp a v u 0 0 0 fnd)) := Lib.hid ((((((b0.set 7 (.int .i64 a)).set 8 (.int .u64 v)).set 9 (.int .i64 u)).set 10 (.int .i64 0)).set 11 (.int .u64 0)).set 12 (.int .i64 0))
  have F1 : Hid (Fr (fun b => b = gs) w (((((((w.alloc (.cells #[.int .i64 a, .int .u64 v, .int .i64 u] 84)).setCell ⟨gs, 7, none⟩ (.int .i64 a)).setCell ⟨gs, 7 + 1, none⟩ (.int .u64 v)).setCell ⟨gs, 7 + 2, none⟩ (.int .i64 u)).setCell ⟨gs, 10, none⟩ (.int .i64 0)).setCell ⟨gs, 10 + 1, none⟩ (.int .u64 0)).setCell ⟨gs, 10 + 2, none⟩ (.int .i64 0))) := Lib.hid (((((((Fr.of_ext (S := fun b => b = gs) x0).setCell (p := ⟨gs, 7, none⟩) (Or.inl rfl) _).setCell (p := ⟨gs, 8, none⟩) (Or.inl rfl) _).setCell (p := ⟨gs, 9, none⟩) (Or.inl rfl) _).setCell (p := ⟨gs, 10, none⟩) (Or.inl rfl) _).setCell (p := ⟨gs, 11, none⟩) (Or.inl rfl) _).setCell (p := ⟨gs, 12, none⟩) (Or.inl rfl) _)
  have HL := Lib.hid hl
  have HV := Lib.hid hv
  have HOk := Lib.hid ok
  clear hb hl hv ok x0 bp b0 hlt
  go_enter Tryz.func76, Tryz.ntmps76
  go_upto_region 2 with fail
  generalize (((((((w.alloc (.cells #[.int .i64 a, .int .u64 v, .int .i64 u] 84)).setCell ⟨gs, 7, none⟩ (.int .i64 a)).setCell ⟨gs, 7 + 1, none⟩ (.int .u64 v)).setCell ⟨gs, 7 + 2, none⟩ (.int .i64 u)).setCell ⟨gs, 10, none⟩ (.int .i64 0)).setCell ⟨gs, 10 + 1, none⟩ (.int .u64 0)).setCell ⟨gs, 10 + 2, none⟩ (.int .i64 0)) = w1 at *
  clear p0 p1 p2 c7 c8 c9 c10 c11 c12 z7 z8 z9 z10 z11 z12
  have d8 : w1.cell? ⟨gs, 8, none⟩ = some (.int .u64 v) := B1.out.cell 8
  go_wp2_with fail
  refine (skSlot_ok d8 HV.out).mono ?_
  rintro e w2 ⟨rfl, x2⟩
  have B2 := Lib.hid (B1.out.ext x2)
  have F2 := Lib.hid (F1.out.then_ext x2)
  have HTr := Lib.hid (toN_rng HV.out)
  clear x2 d8 B1 F1
  by_cases ht : toN v = -1
  · have e0 : decide (toN v = -1) = true := by simpa using ht
    have e1 : (toN v == -1) = true := by rw [beq_iff_eq]; exact ht
    have HT := Lib.hid ht
    have d4 : w2.cell? ⟨gs, 4, none⟩ = some nx := B2.out.cell 4
    have z4 : w2.frozen? ⟨gs, 4, none⟩ = false := B2.out.frozen 4
    have B3 := Lib.hid (B2.out.set 4 .nilFunc)
    have F3 := Lib.hid (F2.out.setCell (p := ⟨gs, 4, none⟩) (Or.inl rfl) .nilFunc)
    clear ht
    go_wp2_with fail
    (first | (refine bodyPost_ret (results_none rfl _ _ _) rfl ?_) | (refine bodyPost_end (results_none rfl _ _ _) rfl ?_))
    exact ⟨⟨_, rfl⟩, F3.out, Or.inl ⟨HT.out, B3.out⟩⟩
  · have e0 : decide (toN v = -1) = false := by simpa using ht
    have e1 : (toN v == -1) = false := by rw [beq_eq_false_iff_ne]; exact ht
    have HT := Lib.hid ht
    have L2 := Lib.hid (HL.out.fr F2.out nlp)
    have M : Hid (Blk w2.drew gs 86 (skC gl th head key nx rp pp a v u 0 0 0 fnd) ∧ Blk w2.drew gl 97 (cellsF F) ∧ Fr (fun b => b = gs) w w2.drew) := Lib.hid ⟨B2.out.ext ((Ext.refl w2).drew), L2.out.ext ((Ext.refl w2).drew), F2.out.then_ext ((Ext.refl w2).drew)⟩
    have HP : Hid (∀ W cs, cs[0]? = some (.pointer (some ⟨gl, 0, none⟩)) → cs[8]? = some (.int .u64 v) → Blk W gs 86 cs → W.cell? ⟨gs, 0, none⟩ = some (.pointer (some ⟨gl, 0, none⟩)) ∧ W.cell? ⟨gs, 8, none⟩ = some (.int .u64 v)) := Lib.hid (fun W cs h0 h8 b => ⟨(b.cell 0).trans h0, (b.cell 8).trans h8⟩)
    have d0 : w2.cell? ⟨gs, 0, none⟩ = some (.pointer (some ⟨gl, 0, none⟩)) := B2.out.cell 0
    have d8 : w2.cell? ⟨gs, 8, none⟩ = some (.int .u64 v) := B2.out.cell 8
    obtain ⟨sl, hsl⟩ : ∃ sl, toN v = sl := ⟨_, rfl⟩
    have HSl := Lib.hid (fun W (h : W.cell? ⟨gs, 8, none⟩ = some (.int .u64 v)) => skSlot_ok (w := W) h HV.out)
    have HNx := Lib.hid (fun W (h : Blk W gl 97 (cellsF F)) => next_ok HOk.out gl (toN v) W h)
    have HRd := Lib.hid (fun W (h : Blk W gs 86 (skC gl th head key nx rp pp a v u 0 0 0 fnd)) => reads_ok (nxtN F (toN v)) 90 h)
    unfold skF at *
    rw [hsl] at HSl HNx HRd ⊢
    rw [hsl] at e0 e1 HT
    have HEq := Lib.hid hsl
    obtain ⟨nxa, hnx⟩ : ∃ nxa, nxtN F sl = nxa := ⟨_, rfl⟩
    rw [hnx] at HNx HRd
    have HNa := Lib.hid hnx
    clear hsl ht L2 B2 F2 hnx
    go_wp2_with fail
    go_region_held3 (fun W => W.cell? ⟨gs, 0, none⟩ = some (.pointer (some ⟨gl, 0, none⟩)) ∧ W.cell? ⟨gs, 8, none⟩ = some (.int .u64 v)) (first | exact HP.out _ _ rfl rfl M.out.1 | exact HP.out _ _ rfl rfl BS.out | go_keep) (first
      | (go_at_call 37; refine (HSl.out _ (M.out.1.cell 8)).mono ?_; rintro e w3 ⟨rfl, x3⟩; replace M := Lib.hid (And.intro (M.out.1.ext x3) (And.intro (M.out.2.1.ext x3) (M.out.2.2.then_ext x3))); clear x3)
      | (go_at_call 18; refine (HNx.out _ M.out.2.1).mono ?_; rintro e w3 ⟨rfl, x3⟩; replace M := Lib.hid (And.intro (M.out.1.ext x3) (And.intro (M.out.2.1.ext x3) (M.out.2.2.then_ext x3))); clear x3)
      | (go_at_call 55; refine (HRd.out _ M.out.1).mono ?_; rintro e w3 ⟨⟨z, rfl⟩, gn, hgn, bn, bs, fr⟩; have BN := Lib.hid bn; have BS := Lib.hid bs; have FF := Lib.hid (M.out.2.2.trans fr (fun _ _ hb => hb)); have HGn := Lib.hid (Nat.le_trans M.out.2.2.size hgn); clear bn bs fr hgn))
    all_goals
      go_wp2_with fail
      (first | (refine bodyPost_ret (results_none rfl _ _ _) rfl ?_) | (refine bodyPost_end (results_none rfl _ _ _) rfl ?_))
      refine ⟨⟨_, rfl⟩, FF.out, Or.inr ?_⟩
      rw [HEq.out, HNa.out]
      exact ⟨HT.out, gn, HGn.out, BN.out, BS.out⟩
end
section
variable {Q : Nat → Prop} {w0 w : World} {gm gs gr gl : Nat} {dv pv : Value} {s : MSt} {th head key : Int} {nx : Value} {pp : Option Addr} {fat fwd fwh hat hwd hwh : Int} {fnd : Bool}
set_option maxRecDepth 100000 in
set_option maxHeartbeats 4000000 in
theorem goesOn_ok {y : LrM} (h : IsMem Q w w0 w gm dv pv s) (hc : Calm s) {i : Nat} (hi : i ≤ 1000) (fine : Fine i s.dev) (ha : I64 hat) (hy : y.Wf) (hr : Blk w gr 147 (y.cells th hat)) (hb : Blk w gs 86 (skC gl th head key nx (some ⟨gr, 0, none⟩) pp fat fwd fwh hat hwd hwh fnd)) (qr : Q gr) (qs : Q gs) (pr : w0.heap.size ≤ gr) (ps : w0.heap.size ≤ gs) (nrs : gr ≠ gs) :
    Calls Tryz.prog 74 #[.pointer (some ⟨gs, 0, none⟩), .pointer (some ⟨gm, 0, none⟩)] w fun e w' => e = .returned (.bool (lrS th hat y s).1.dn) ∧ IsMem Q w' w0 w' gm dv pv (lrS th hat y s).2 ∧ Blk w' gr 147 ((lrS th hat y s).1.cells th hat) ∧ Blk w' gs 86 (if (lrS th hat y s).1.dn = true then (skC gl th head key nx (some ⟨gr, 0, none⟩) pp fat fwd fwh hat (lrS th hat y s).1.wd (lrS th hat y s).1.wh fnd) else (skC gl th head key nx (some ⟨gr, 0, none⟩) pp fat fwd fwh hat hwd hwh fnd)) ∧ ∀ b, Q b → b ≠ gr → b ≠ gs → w'.heap[b]? = w.heap[b]? := by
  have HS := Lib.hid (lrStep_ok h hc hi fine ha hy hr qr pr)
  have d5 : w.cell? ⟨gs, 5, none⟩ = some (.pointer (some ⟨gr, 0, none⟩)) := hb.cell 5
  have HB := Lib.hid hb
  generalize lrS th hat y s = p at *
  obtain ⟨⟨pt, wd, wh, dn⟩, s'⟩ := p
  clear h hc hi fine ha hy hr hb
  simp only
  go_enter Tryz.func74, Tryz.ntmps74
  go_wp2_with fail
  refine HS.out.mono ?_
  rintro e w1 ⟨rfl, m1, r1, k1⟩
  have M1 := Lib.hid m1
  have R1 : Hid (Blk w1 gr 147 (LrM.cells ⟨pt, wd, wh, dn⟩ th hat)) := Lib.hid r1
  have K1 := Lib.hid k1
  have B1 : Hid (Blk w1 gs 86 (skC gl th head key nx (some ⟨gr, 0, none⟩) pp fat fwd fwh hat hwd hwh fnd)) := Lib.hid ((k1 gs qs (fun e => nrs e.symm)).trans HB.out)
  clear m1 r1 k1 HS d5
  cases dn
  · go_wp2_with fail
    go_ret
    exact ⟨rfl, M1.out, R1.out, B1.out, fun b hb h1 _ => K1.out b hb h1⟩
  · have NE : Hid (gr ≠ gs) := Lib.hid nrs
    have M : Hid (Blk w1.drew gs 86 (skC gl th head key nx (some ⟨gr, 0, none⟩) pp fat fwd fwh hat hwd hwh fnd) ∧ Blk w1.drew gr 147 (LrM.cells ⟨pt, wd, wh, true⟩ th hat) ∧ Fr (fun b => b = gs) w1 w1.drew) := Lib.hid ⟨B1.out.ext ((Ext.refl w1).drew), R1.out.ext ((Ext.refl w1).drew), (Fr.refl _ w1).then_ext ((Ext.refl w1).drew)⟩
    have HP : Hid (∀ W a b, Blk W gs 86 (skC gl th head key nx (some ⟨gr, 0, none⟩) pp fat fwd fwh hat a b fnd) ∧ Blk W gr 147 (LrM.cells ⟨pt, wd, wh, true⟩ th hat) ∧ Fr (fun b => b = gs) w1 W → W.cell? ⟨gs, 5, none⟩ = some (.pointer (some ⟨gr, 0, none⟩))) := Lib.hid (fun W a b m => m.1.cell 5)
    have HW := Lib.hid (fun W (m : Blk W gr 147 (LrM.cells ⟨pt, wd, wh, true⟩ th hat)) => lrWord_ok W gr wd true (m.cell 3) (m.cell 5))
    have HN := Lib.hid (fun W (m : Blk W gr 147 (LrM.cells ⟨pt, wd, wh, true⟩ th hat)) => lrWhen_ok W gr wh true (m.cell 4) (m.cell 5))
    simp only [if_true] at HW HN
    have d5 : w1.cell? ⟨gs, 5, none⟩ = some (.pointer (some ⟨gr, 0, none⟩)) := B1.out.cell 5
    have c11 : w1.cell? ⟨gs, 11, none⟩ = some (.int .u64 hwd) := B1.out.cell 11
    have z11 : w1.frozen? ⟨gs, 11, none⟩ = false := B1.out.frozen 11
    have c12 : w1.cell? ⟨gs, 12, none⟩ = some (.int .i64 hwh) := B1.out.cell 12
    have z12 : w1.frozen? ⟨gs, 12, none⟩ = false := B1.out.frozen 12
    have c11b : w1.cell? ⟨gs, 10 + 1, none⟩ = some (.int .u64 hwd) := c11
    have c12b : w1.cell? ⟨gs, 10 + 2, none⟩ = some (.int .i64 hwh) := c12
    have ma : Blk (w1.setCell ⟨gs, 11, none⟩ (.int .u64 wd)) gs 86 (skC gl th head key nx (some ⟨gr, 0, none⟩) pp fat fwd fwh hat wd hwh fnd) ∧ Blk (w1.setCell ⟨gs, 11, none⟩ (.int .u64 wd)) gr 147 (LrM.cells ⟨pt, wd, wh, true⟩ th hat) ∧ Fr (fun b => b = gs) w1 (w1.setCell ⟨gs, 11, none⟩ (.int .u64 wd)) := ⟨B1.out.set 11 (.int .u64 wd), R1.out.far (p := ⟨gs, 11, none⟩) nrs _, (Fr.refl (fun b => b = gs) w1).setCell (p := ⟨gs, 11, none⟩) (Or.inl rfl) _⟩
    have mb : Blk ((w1.setCell ⟨gs, 11, none⟩ (.int .u64 wd)).setCell ⟨gs, 12, none⟩ (.int .i64 wh)) gs 86 (skC gl th head key nx (some ⟨gr, 0, none⟩) pp fat fwd fwh hat wd wh fnd) ∧ Blk ((w1.setCell ⟨gs, 11, none⟩ (.int .u64 wd)).setCell ⟨gs, 12, none⟩ (.int .i64 wh)) gr 147 (LrM.cells ⟨pt, wd, wh, true⟩ th hat) ∧ Fr (fun b => b = gs) w1 ((w1.setCell ⟨gs, 11, none⟩ (.int .u64 wd)).setCell ⟨gs, 12, none⟩ (.int .i64 wh)) := ⟨ma.1.set 12 (.int .i64 wh), ma.2.1.far (p := ⟨gs, 12, none⟩) nrs _, ma.2.2.setCell (p := ⟨gs, 12, none⟩) (Or.inl rfl) _⟩
    have HPD : Hid (∀ W cs, cs[5]? = some (.pointer (some ⟨gr, 0, none⟩)) → Blk W gs 86 cs → W.drew.cell? ⟨gs, 5, none⟩ = some (.pointer (some ⟨gr, 0, none⟩))) := Lib.hid (fun W cs h b => ((b.ext ((Ext.refl W).drew)).cell 5).trans h)
    have MA := Lib.hid ma
    have MB := Lib.hid mb
    have F9 := mb.2.2.then_ext ((Ext.refl ((w1.setCell ⟨gs, 11, none⟩ (.int .u64 wd)).setCell ⟨gs, 12, none⟩ (.int .i64 wh))).drew)
    have ME := Lib.hid (M1.out.turn F9 (fun g hg => by rw [hg]; exact qs) (fun g hg => by rw [hg]; exact ps))
    have GE := Lib.hid (mb.2.1.ext ((Ext.refl ((w1.setCell ⟨gs, 11, none⟩ (.int .u64 wd)).setCell ⟨gs, 12, none⟩ (.int .i64 wh))).drew))
    have SE := Lib.hid (mb.1.ext ((Ext.refl ((w1.setCell ⟨gs, 11, none⟩ (.int .u64 wd)).setCell ⟨gs, 12, none⟩ (.int .i64 wh))).drew))
    have KE : Hid (∀ b, Q b → b ≠ gr → b ≠ gs → ((w1.setCell ⟨gs, 11, none⟩ (.int .u64 wd)).setCell ⟨gs, 12, none⟩ (.int .i64 wh)).drew.heap[b]? = w.heap[b]?) := Lib.hid (fun b hb h1 h2 => (F9.block b (M1.out.lt.2 b hb) h2).trans (K1.out b hb h1))
    clear ma mb F9
    go_wp2_with fail
    go_region_held3 (fun W => W.cell? ⟨gs, 5, none⟩ = some (.pointer (some ⟨gr, 0, none⟩))) (first | exact HP.out _ _ _ M.out | (with_reducible exact HPD.out _ _ rfl MA.out.1) | (with_reducible exact HPD.out _ _ rfl MB.out.1) | go_keep) (first
      | (go_at_call 87; refine (HW.out _ M.out.2.1).mono ?_; rintro e w3 ⟨rfl, rfl⟩)
      | (go_at_call 88; refine (HN.out _ M.out.2.1).mono ?_; rintro e w3 ⟨rfl, rfl⟩))
    all_goals
      clear d5 c11 z11 c12 z12 c11b c12b M MA MB HP HPD HW HN
      generalize ((w1.setCell ⟨gs, 11, none⟩ (.int .u64 wd)).setCell ⟨gs, 12, none⟩ (.int .i64 wh)).drew = w9 at *
      go_wp2_with fail
      go_ret
      exact ⟨rfl, ME.out, GE.out, SE.out, KE.out⟩
end
end Go.Proofs.YtolengkegjipaaaGreat


/- Package seek: what a Seek tells, done or not. Conditions: those that each theorem names. -/
namespace Go.Proofs.YtolengkegjipaaaGreat
open Go.ChangeShapes Go.WideShapes Go.ChangeAt Go.RowKit
set_option linter.unusedVariables false
/-- A machine that is done, or one that has nothing. -/
def EndP (W : World) (ge : Nat) (fat fwd fwh hwd hwh : Int) (fnd : Bool) : Prop :=
  W.cell? ⟨ge, 7, none⟩ = some (.int .i64 fat) ∧ W.cell? ⟨ge, 8, none⟩ = some (.int .u64 fwd) ∧ W.cell? ⟨ge, 9, none⟩ = some (.int .i64 fwh) ∧ W.cell? ⟨ge, 11, none⟩ = some (.int .u64 hwd) ∧ W.cell? ⟨ge, 12, none⟩ = some (.int .i64 hwh) ∧ W.cell? ⟨ge, 13, none⟩ = some (.bool fnd)
/-- What ended leaves. -/
def EndC (w : World) (gs : Nat) (fat fwd fwh hwd hwh : Int) (fnd : Bool) : Prop :=
  Calls Tryz.prog 36 #[.pointer (some ⟨gs, 0, none⟩)] w fun e w' => ∃ ge, e = .returned (.pointer (some ⟨ge, 0, none⟩)) ∧ Ext w w' ∧ EndP w' ge fat fwd fwh hwd hwh fnd
section
variable {w w' : World} {gs gl : Nat} {th head key : Int} {nx : Value} {rp pp : Option Addr} {fat fwd fwh hat hwd hwh : Int} {fnd : Bool}
theorem skEnd_yes (hb : Blk w gs 86 (skC gl th head key .nilFunc rp pp fat fwd fwh hat hwd hwh fnd)) : EndC w gs fat fwd fwh hwd hwh fnd := by
  have HD := Lib.hid (skDone_yes (w := w) (gs := gs) (hb.cell 4))
  have HE : Hid (EndP w gs fat fwd fwh hwd hwh fnd) := Lib.hid ⟨hb.cell 7, hb.cell 8, hb.cell 9, hb.cell 11, hb.cell 12, hb.cell 13⟩
  unfold EndC
  clear hb
  go_enter Tryz.func36, Tryz.ntmps36
  go_wp2_with fail
  refine HD.out.mono ?_
  rintro e w' ⟨rfl, rfl⟩
  go_wp2_with fail
  go_ret
  exact ⟨gs, rfl, Ext.refl _, HE.out⟩
theorem skEnd_no {fn : FuncId} (c4 : w.cell? ⟨gs, 4, none⟩ = some (skF fn gs)) : EndC w gs (-1) 0 (-1) 0 0 false := by
  have HD := Lib.hid (skDone_no (w := w) (gs := gs) _ c4)
  unfold EndC
  clear c4
  go_enter Tryz.func36, Tryz.ntmps36
  go_wp2_with fail
  refine HD.out.mono ?_
  rintro e w' ⟨rfl, rfl⟩
  go_wp2_with fail
  go_ret
  refine ⟨w.heap.size, rfl, (Ext.refl w).alloc _, ?_⟩
  have hb := Blk.new w 86 [.pointer none, .int .i64 0, .int .i64 0, .int .u32 0, .nilFunc, .pointer none, .pointer none, .int .i64 (-1), .int .u64 0, .int .i64 (-1), .int .i64 0, .int .u64 0, .int .i64 0, .bool false]
  exact ⟨hb.cell 7, hb.cell 8, hb.cell 9, hb.cell 11, hb.cell 12, hb.cell 13⟩
theorem skFound_ok (c : w.cell? ⟨gs, 13, none⟩ = some (.bool fnd)) : Calls Tryz.prog 14 #[.pointer (some ⟨gs, 0, none⟩)] w fun e w' => e = .returned (.bool fnd) ∧ w = w' := by
  go_enter Tryz.func14, Tryz.ntmps14
  go_wp2_with fail
  go_ret
  exact ⟨rfl, rfl⟩
theorem skPrev_ok (h : EndC w gs fat fwd fwh hwd hwh fnd) : Calls Tryz.prog 15 #[.pointer (some ⟨gs, 0, none⟩)] w fun e w' => e = .returned (.int .i64 fat) ∧ Ext w w' := by
  unfold EndC at h
  have HE := Lib.hid h
  clear h
  go_enter Tryz.func15, Tryz.ntmps15
  go_wp2_with fail
  refine HE.out.mono ?_
  rintro e w1 ⟨ge, rfl, x1, e7, e8, e9, e11, e12, e13⟩
  have X1 := Lib.hid x1
  clear x1
  go_wp2_with fail
  go_ret
  exact ⟨rfl, X1.out⟩
theorem skWord_ok (h : EndC w gs fat fwd fwh hwd hwh fnd) : Calls Tryz.prog 19 #[.pointer (some ⟨gs, 0, none⟩)] w fun e w' => e = .returned (.int .u64 fwd) ∧ Ext w w' := by
  unfold EndC at h
  have HE := Lib.hid h
  clear h
  go_enter Tryz.func19, Tryz.ntmps19
  go_wp2_with fail
  refine HE.out.mono ?_
  rintro e w1 ⟨ge, rfl, x1, e7, e8, e9, e11, e12, e13⟩
  have X1 := Lib.hid x1
  clear x1
  go_wp2_with fail
  go_ret
  exact ⟨rfl, X1.out⟩
theorem skCurr_ok (h : EndC w gs fat fwd fwh hwd hwh fnd) (hf : W64 fwd) : Calls Tryz.prog 16 #[.pointer (some ⟨gs, 0, none⟩)] w fun e w' => e = .returned (.int .i64 (toN fwd)) ∧ Ext w w' := by
  unfold EndC at h
  have HE := Lib.hid h
  have HS := Lib.hid (fun (W : World) (ge : Nat) (c : W.cell? ⟨ge, 8, none⟩ = some (.int .u64 fwd)) => skSlot_ok (w := W) (gs := ge) c hf)
  clear h hf
  go_enter Tryz.func16, Tryz.ntmps16
  go_wp2_with fail
  refine HE.out.mono ?_
  rintro e w1 ⟨ge, rfl, x1, e7, e8, e9, e11, e12, e13⟩
  have X1 := Lib.hid x1
  have HS1 := Lib.hid (HS.out w1 ge e8)
  clear x1 HS
  go_wp2_with fail
  refine HS1.out.mono ?_
  rintro e w2 ⟨rfl, x2⟩
  have X2 := Lib.hid (X1.out.trans x2)
  clear x2
  go_wp2_with fail
  go_ret
  exact ⟨rfl, X2.out⟩
end
end Go.Proofs.YtolengkegjipaaaGreat

