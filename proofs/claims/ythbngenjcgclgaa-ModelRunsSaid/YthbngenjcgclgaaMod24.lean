/- Layer 8: put of a pair, wherever it belongs. Conditions: those that each theorem names. -/
import Derived.Test.YthbngenjcgclgaaMod23
namespace Go.Proofs.Ythbngenjcgclgaa
open Go.ChangeShapes Go.WideShapes Go.ChangeAt Go.RowKit
set_option linter.unusedVariables false
set_option maxRecDepth 100000 in
set_option maxHeartbeats 2000000 in
theorem putP_mid (w0 w : World) (gs : Nat) (qv sv v : Value) (ps : List Pr) (a b : Int) (x0 : Ext w0 w) (hb : Blk w gs 25 [qv, sv, v]) (h : PRow w w0.heap.size v ps) (hn : ps.length ≤ 1000000) (hg : w0.heap.size ≤ gs) (hh : hasP ps a = false) (i : Nat) (hidx : idxP ps (PutP a) = i) (hil : i < ps.length) (ps' : List Pr)
    (HI : ∀ (W : World) (gv : Nat), Ext w W → w.heap.size ≤ gv → Blk W gv 46 [.int .u32 a, .int .u32 b] → PRow W w0.heap.size v ps → Calls Try.prog 38 #[v, .int .i64 (i : Int), .slice (some ⟨gv, 0, none⟩) 1 1] W (POnto w0 W v ps')) :
    Calls Try.prog 28 #[.pointer (some ⟨gs, 2, none⟩), .agg #[.int .u32 a, .int .u32 b], .func (.func 16) #[] #[]] w fun e w' => e = .returned (.tuple #[.agg #[.int .u32 (findP ps a).1, .int .u32 (findP ps a).2], .bool false]) ∧ ∃ v', PRow w' w0.heap.size v' ps' ∧ Blk w' gs 25 [qv, sv, v'] ∧ Ext w0 w' ∧ (∀ q, q < w.heap.size → q ≠ gs → v.ownBlock ≠ some q → w'.heap[q]? = w.heap[q]? ∧ v'.ownBlock ≠ some q) ∧ w.heap.size ≤ w'.heap.size := by
  have hgl := hb.lt
  have hg1 : ¬ gs = w.heap.size := by omega
  have hg2 : ¬ gs = w.heap.size + 1 := by omega
  have hg3 : ¬ gs = w.heap.size + 1 + 1 := by omega
  have hg4 : ¬ w.heap.size = gs := by omega
  have hg5 : ¬ w.heap.size + 1 = gs := by omega
  have hg6 : ¬ w.heap.size + 1 + 1 = gs := by omega
  have HH := Lib.hid h
  have HB := Lib.hid hb
  obtain ⟨A, c, rfl, hnc, hcm, hP⟩ := h.form
  obtain ⟨n, hl⟩ : ∃ n, ps.length = n := ⟨_, rfl⟩
  have HFi := Lib.hid (fun (W : World) (x : Ext w W) => findP_ok W A ps.length c ps a rfl hn (hP.ext x))
  have HPa := Lib.hid hP
  clear h hP hb
  rw [hh] at HFi
  rw [hl] at HFi HH HB hn hnc HI hil ⊢
  have hlt0 : ¬ (i : Int) < 0 := by omega
  have hlt1 : decide ((i : Int) < 0) = false := by simp
  have HL := Lib.hid hl
  clear hl
  generalize findP ps a = fp at *
  obtain ⟨fa, fb⟩ := fp
  simp only at HFi ⊢
  have y4 := ((Blk.new w 46 [.int .u32 a, .int .u32 b]).ext ((Ext.refl _).alloc (.cells #[.func (.func 16) #[] #[]] 47))).ext ((Ext.refl _).alloc (.cells #[.int .u32 0, .int .u32 0] 46))
  have y5 := (Blk.new (w.alloc (.cells #[.int .u32 a, .int .u32 b] 46)) 47 [.func (.func 16) #[] #[]]).ext ((Ext.refl _).alloc (.cells #[.int .u32 0, .int .u32 0] 46))
  have y6 := Blk.new ((w.alloc (.cells #[.int .u32 a, .int .u32 b] 46)).alloc (.cells #[.func (.func 16) #[] #[]] 47)) 46 [.int .u32 0, .int .u32 0]
  rw [show (w.alloc (.cells #[.int .u32 a, .int .u32 b] 46)).heap.size = w.heap.size + 1 by simp] at y5
  rw [show ((w.alloc (.cells #[.int .u32 a, .int .u32 b] 46)).alloc (.cells #[.func (.func 16) #[] #[]] 47)).heap.size = w.heap.size + 1 + 1 by simp] at y6
  have Y4 := Lib.hid y4
  have Y5 := Lib.hid y5
  have Y6 := Lib.hid y6
  have XB := Lib.hid ((((Ext.refl w).alloc (.cells #[.int .u32 a, .int .u32 b] 46)).alloc (.cells #[.func (.func 16) #[] #[]] 47)).alloc (.cells #[.int .u32 0, .int .u32 0] 46))
  clear y4 y5 y6
  have hmf : ∀ (fn : Fn) (first cap : Array Value) (w : World), (Instr.makeFunc fn first cap).run Try.prog w = .ok (.func fn first cap) w := fun _ _ _ _ => rfl
  go_enter Try.func28, Try.ntmps28
  go_wp2_with fail
  refine (keyOf_ok a b _).mono ?_
  rintro e w1 ⟨rfl, x1⟩
  have z4 := Y4.out.ext x1
  have z5 := Y5.out.ext x1
  have z6 := Y6.out.ext x1
  have ZB := XB.out.trans x1
  have XT := Lib.hid x1
  clear x1
  go_upto_region 2 with fail
  have z8 := Blk.new w1 32 [.int .u32 a]
  have e1 := (Ext.refl w1).alloc (.cells #[.int .u32 a] 32)
  have X0 := Lib.hid (ZB.trans e1)
  have U4 := Lib.hid (z4.ext e1)
  have U5 := Lib.hid (z5.ext e1)
  have U6 := Lib.hid (z6.ext e1)
  have U8 := Lib.hid z8
  have g8a : w.heap.size + 1 + 1 < w1.heap.size := z6.lt
  clear z4 z5 z6 z8 e1 Y4 Y5 Y6 XT ZB
  generalize w1.alloc (.cells #[.int .u32 a] 32) = W0 at *
  have k4a : W0.cell? ⟨w.heap.size, 0, none⟩ = some (.int .u32 a) := U4.out.cell 0
  have k4b : W0.cell? ⟨w.heap.size, 1, none⟩ = some (.int .u32 b) := U4.out.cell 1
  have k5 : W0.cell? ⟨w.heap.size + 1, 0, none⟩ = some (.func (.func 16) #[] #[]) := U5.out.cell 0
  have k8 : W0.cell? ⟨w1.heap.size, 0, none⟩ = some (.int .u32 a) := U8.out.cell 0
  have hcW : W0.cell? ⟨gs, 2, none⟩ = some (.slice A n c) := (HB.out.ext X0.out).cell 2
  have s5 := U5.out.lt
  have s6 := U6.out.lt
  have s8 := U8.out.lt
  have s7 : gs < W0.heap.size := by omega
  have n5 : ¬ w.heap.size + 1 = W0.heap.size := by omega
  have n7 : ¬ gs = W0.heap.size := by omega
  have n8 : ¬ w1.heap.size = W0.heap.size := by omega
  go_cut [9, 10] (fun s9 s10 wx => ∃ g9 : Nat, s9 = .pointer (some ⟨g9, 0, none⟩) ∧ s10 = .bool false ∧ Blk wx g9 46 [.int .u32 fa, .int .u32 fb] ∧ Ext W0 wx ∧ W0.heap.size ≤ g9)
  case first =>
    have xt : Ext w W0.drew := X0.out.drew
    have xa : Ext w (W0.alloc (.cells #[.int .u32 0, .int .u32 0] 46)).drew := (X0.out.alloc _).drew
    have BN := Lib.hid ((Blk.new W0 46 [.int .u32 0, .int .u32 0]).ext ((Ext.refl _).drew))
    have HC : Hid (∀ W, Ext W0 W → W.cell? ⟨gs, 2, none⟩ = some (.slice A n c) ∧ W.cell? ⟨w1.heap.size, 0, none⟩ = some (.int .u32 a) ∧ W.cell? ⟨w.heap.size + 1, 0, none⟩ = some (.func (.func 16) #[] #[])) := Lib.hid (fun W x => ⟨(World.cell?_of_block (x.block gs s7)).trans hcW, (World.cell?_of_block (x.block _ s8)).trans k8, (World.cell?_of_block (x.block _ s5)).trans k5⟩)
    go_region_held3 (fun W => W.cell? ⟨gs, 2, none⟩ = some (.slice A n c) ∧ W.cell? ⟨w1.heap.size, 0, none⟩ = some (.int .u32 a) ∧ W.cell? ⟨w.heap.size + 1, 0, none⟩ = some (.func (.func 16) #[] #[])) (first | (with_reducible exact HC.out _ (((Ext.refl W0).drew).trans X5.out)) | (with_reducible exact HC.out _ ((((Ext.refl W0).alloc _).drew).trans X5.out)) | (exact HC.out _ ((((Ext.refl W0).drew).trans X5.out).alloc _)) | (exact HC.out _ ((((((Ext.refl W0).alloc _).drew).trans X5.out).setCell (p := ⟨W0.heap.size, 0, none⟩) (Nat.le_refl _) _).setCell (p := ⟨W0.heap.size, 1, none⟩) (Nat.le_refl _) _)) | go_keep) (first
      | (go_at_call 29; refine (HFi.out _ (by with_reducible exact xt)).mono ?_; rintro e w5 ⟨rfl, x5⟩; have X5 := Lib.hid x5; clear x5)
      | (go_at_call 29; refine (HFi.out _ (by with_reducible exact xa)).mono ?_; rintro e w5 ⟨rfl, x5⟩; have b8 := BN.out.ext x5; have q0 : w5.cell? ⟨W0.heap.size, 0, none⟩ = some (.int .u32 0) := b8.cell 0; have q1 : w5.cell? ⟨W0.heap.size, 1, none⟩ = some (.int .u32 0) := b8.cell 1; have z0 : w5.frozen? ⟨W0.heap.size, 0, none⟩ = false := b8.frozen 0; have z1 : w5.frozen? ⟨W0.heap.size, 1, none⟩ = false := b8.frozen 1; have B8 := Lib.hid b8; have X5 := Lib.hid x5; clear x5 b8))
    all_goals
      go_wp2_with fail
      go_meet
      first
        | exact ⟨w5.heap.size, rfl, rfl, Blk.new w5 _ [.int .u32 fa, .int .u32 fb], (((Ext.refl W0).drew).trans X5.out).alloc _, X5.out.size⟩
        | exact ⟨W0.heap.size, rfl, rfl, (B8.out.set 0 (.int .u32 fa)).set 1 (.int .u32 fb), (((((Ext.refl W0).alloc _).drew).trans X5.out).setCell (p := ⟨W0.heap.size, 0, none⟩) (Nat.le_refl _) _).setCell (p := ⟨W0.heap.size, 1, none⟩) (Nat.le_refl _) _, Nat.le_refl _⟩
  case rest =>
    obtain ⟨g9, rfl, rfl, b9, x9, l9⟩ := hcut
    generalize wc = w2 at *
    have r6 := U6.out.ext x9
    have XW := X0.out.trans x9
    have d4 := U4.out.ext x9
    have d5 := U5.out.ext x9
    have d8 := U8.out.ext x9
    have b2 := HB.out.ext XW
    have cw2 : w2.cell? ⟨gs, 2, none⟩ = some (.slice A n c) := b2.cell 2
    have hix := idxPut_ok w2 A n c ps (PutP a) (.pointer (some ⟨w.heap.size + 1, 0, none⟩)) (.pointer (some ⟨w1.heap.size, 0, none⟩)) HL.out hn (HPa.out.ext XW) (fun W p x => putF_ok W p.1 p.2 a (w.heap.size + 1) w1.heap.size ((d5.ext x).cell 0) ((d8.ext x).cell 0) (d5.ext x).lt (d8.ext x).lt)
    rw [hidx] at hix
    have HX := Lib.hid hix
    have D4 := Lib.hid d4
    have D6 := Lib.hid r6
    have D9 := Lib.hid b9
    have DB := Lib.hid b2
    have XX := Lib.hid XW
    clear hix d4 d5 d8 b2 r6 b9 XW k4a k4b k5 k8 hcW U4 U5 U6 U8 X0 x9 hidx
    go_wp2_with fail
    refine HX.out.mono ?_
    rintro e w3 ⟨rfl, x3⟩
    have q2 := DB.out.ext x3
    have q4 := D4.out.ext x3
    have q6 := D6.out.ext x3
    have q9 := D9.out.ext x3
    have X3 := Lib.hid (XX.out.trans x3)
    have c3 : w3.cell? ⟨gs, 2, none⟩ = some (.slice A n c) := q2.cell 2
    have f3 : w3.frozen? ⟨gs, 2, none⟩ = false := q2.frozen 2
    have e4a : w3.cell? ⟨w.heap.size, 0, none⟩ = some (.int .u32 a) := q4.cell 0
    have e4b : w3.cell? ⟨w.heap.size, 1, none⟩ = some (.int .u32 b) := q4.cell 1
    have t3 : gs < w3.heap.size := q2.lt
    have t4 : w.heap.size < w3.heap.size := q4.lt
    have m3 : ¬ gs = w3.heap.size := by omega
    have m4 : ¬ w.heap.size = w3.heap.size := by omega
    have Q2 := Lib.hid q2
    have Q6 := Lib.hid q6
    have Q9 := Lib.hid q9
    have HG := Lib.hid (fun (W : World) (y : Ext (w3.alloc (.cells #[.int .u32 a, .int .u32 b] 46)) W) => HI W w3.heap.size ((X3.out.alloc _).trans y) X3.out.size ((Blk.new w3 46 [.int .u32 a, .int .u32 b]).ext y) (HH.out.ext ((X3.out.alloc _).trans y)))
    clear q2 q4 q6 q9 x3 cw2 HX D4 D6 D9 DB
    go_upto_region 8 with fail
    go_cut [37] (fun s37 wx => ∃ v', PRow wx w0.heap.size v' ps' ∧ Blk wx gs 25 [qv, sv, v'] ∧ Ext w0 wx ∧ (∀ q, q < w3.heap.size → q ≠ gs → (Value.slice A n c).ownBlock ≠ some q → wx.heap[q]? = w3.heap[q]? ∧ v'.ownBlock ≠ some q) ∧ w3.heap.size ≤ wx.heap.size)
    case first =>
      have yt : Ext (w3.alloc (.cells #[.int .u32 a, .int .u32 b] 46)) (w3.alloc (.cells #[.int .u32 a, .int .u32 b] 46)).drew := (Ext.refl _).drew
      have hgo : (Value.slice A n c).ownBlock ≠ some gs := HB.out.ne_row HH.out (by decide)
      go_region_with (first
        | (go_at_call 38; refine (HG.out _ (by with_reducible exact yt)).mono ?_; rintro e w6 ⟨v', rfl, p6, x6, f6, s6⟩; obtain ⟨A', c', rfl, _, _, _⟩ := p6.form; have b6 : Blk w6 gs 25 [qv, sv, .slice A n c] := (f6 gs (by show gs < (w3.alloc (.cells #[.int .u32 a, .int .u32 b] 46)).heap.size; simp; omega) hgo).1.trans (Q2.out.ext ((((Ext.refl w3).alloc _)).drew)); have u0 : w6.cell? ⟨gs, 2, none⟩ = some (.slice A n c) := b6.cell 2; have u1 : w6.frozen? ⟨gs, 2, none⟩ = false := b6.frozen 2; have P6 := Lib.hid p6; have X6 := Lib.hid x6; have F6 := Lib.hid f6; have S6 := Lib.hid s6; have B6 := Lib.hid b6; clear p6 x6 f6 s6 b6))
      all_goals
        go_wp2_with fail
        go_meet
        have hq3 : ∀ q, q < w3.heap.size → q < (w3.alloc (.cells #[.int .u32 a, .int .u32 b] 46)).drew.heap.size := fun q hq => by show q < (w3.alloc (.cells #[.int .u32 a, .int .u32 b] 46)).heap.size; simp; omega
        refine ⟨_, P6.out.fr (S := fun q => q = gs) (Fr.setCell (S := fun q => q = gs) (p := ⟨gs, 2, none⟩) (Fr.refl _ w6) (Or.inl rfl) _) (fun q hq e => ?_), B6.out.set 2 _, X6.out.setCell (p := ⟨gs, 2, none⟩) hg _, fun q hq hqg hqo => ⟨?_, (F6.out q (hq3 q hq) hqo).2⟩, ?_⟩
        · rw [e] at hq
          exact (F6.out gs (hq3 gs t3) hgo).2 hq
        · exact (Below.heap_setCell w6 ⟨gs, 2, none⟩ _ q hqg).trans ((F6.out q (hq3 q hq) hqo).1.trans ((((Ext.refl w3).alloc _).drew).block q hq))
        · have := S6.out
          have h1 : w3.heap.size < (w3.alloc (.cells #[.int .u32 a, .int .u32 b] 46)).drew.heap.size := by show w3.heap.size < (w3.alloc (.cells #[.int .u32 a, .int .u32 b] 46)).heap.size; simp
          show w3.heap.size ≤ (w6.setCell ⟨gs, 2, none⟩ _).heap.size
          simp [World.setCell]
          omega
    case rest =>
      obtain ⟨v', p7, b7, x7, f7, s7⟩ := hcut
      generalize wc = w7 at *
      have hown : ∀ q, (Value.slice A n c).ownBlock = some q → q < w.heap.size := fun q hq => (World.ownsRow.lt HH.out q hq).2
      have h9 : Blk w7 g9 46 [.int .u32 fa, .int .u32 fb] := (f7 g9 Q9.out.lt (by omega) (fun hq => by have := hown _ hq; omega)).1.trans Q9.out
      have h6 : Blk w7 (w.heap.size + 1 + 1) 46 [.int .u32 0, .int .u32 0] := (f7 _ Q6.out.lt hg6 (fun hq => by have := hown _ hq; omega)).1.trans Q6.out
      have v6 : v'.ownBlock ≠ some (w.heap.size + 1 + 1) := (f7 _ Q6.out.lt hg6 (fun hq => by have := hown _ hq; omega)).2
      have j2 : w7.cell? ⟨g9, 0, none⟩ = some (.int .u32 fa) := h9.cell 0
      have j3 : w7.cell? ⟨g9, 1, none⟩ = some (.int .u32 fb) := h9.cell 1
      have j4 : w7.cell? ⟨w.heap.size + 1 + 1, 0, none⟩ = some (.int .u32 0) := h6.cell 0
      have j5 : w7.cell? ⟨w.heap.size + 1 + 1, 1, none⟩ = some (.int .u32 0) := h6.cell 1
      have j6 : w7.frozen? ⟨w.heap.size + 1 + 1, 0, none⟩ = false := h6.frozen 0
      have j7 : w7.frozen? ⟨w.heap.size + 1 + 1, 1, none⟩ = false := h6.frozen 1
      have H6 := Lib.hid h6
      have P7 := Lib.hid p7
      have B7 := Lib.hid b7
      have X7 := Lib.hid x7
      have F7 := Lib.hid f7
      have S7 := Lib.hid s7
      clear h9 h6 p7 b7 x7 f7 s7 c3 f3 e4a e4b
      go_wp2_with fail
      have fz : Fr (fun q => q = w.heap.size + 1 + 1) w7 ((w7.setCell ⟨w.heap.size + 1 + 1, 0, none⟩ (.int .u32 fa)).setCell ⟨w.heap.size + 1 + 1, 1, none⟩ (.int .u32 fb)) := Fr.setCell (p := ⟨w.heap.size + 1 + 1, 1, none⟩) (Fr.setCell (p := ⟨w.heap.size + 1 + 1, 0, none⟩) (Fr.refl (fun q => q = w.heap.size + 1 + 1) w7) (Or.inl rfl) _) (Or.inl rfl) _
      have L5 : Blk ((w7.setCell ⟨w.heap.size + 1 + 1, 0, none⟩ (.int .u32 fa)).setCell ⟨w.heap.size + 1 + 1, 1, none⟩ (.int .u32 fb)) (w.heap.size + 1 + 1) 46 [.int .u32 fa, .int .u32 fb] := (H6.out.set 0 (.int .u32 fa)).set 1 (.int .u32 fb)
      have P8 := P7.out.fr fz (fun q hq e => v6 (by rw [← e]; exact hq))
      have B8 := B7.out.fr fz hg3
      have X8 := fz.ext X7.out (fun q e => by have := x0.size; omega)
      have F8 : ∀ q, q < w.heap.size → q ≠ gs → (Value.slice A n c).ownBlock ≠ some q → ((w7.setCell ⟨w.heap.size + 1 + 1, 0, none⟩ (.int .u32 fa)).setCell ⟨w.heap.size + 1 + 1, 1, none⟩ (.int .u32 fb)).heap[q]? = w.heap[q]? ∧ v'.ownBlock ≠ some q := fun q hq hqg hqo => by
        obtain ⟨f1, f2⟩ := F7.out q (Nat.lt_of_lt_of_le hq X3.out.size) hqg hqo
        exact ⟨(fz.block q (Nat.lt_of_lt_of_le (Nat.lt_of_lt_of_le hq X3.out.size) S7.out) (by omega)).trans (f1.trans (X3.out.block q hq)), f2⟩
      have S8 : w.heap.size ≤ ((w7.setCell ⟨w.heap.size + 1 + 1, 0, none⟩ (.int .u32 fa)).setCell ⟨w.heap.size + 1 + 1, 1, none⟩ (.int .u32 fb)).heap.size := Nat.le_trans (Nat.le_trans X3.out.size S7.out) fz.size
      generalize (w7.setCell ⟨w.heap.size + 1 + 1, 0, none⟩ (.int .u32 fa)).setCell ⟨w.heap.size + 1 + 1, 1, none⟩ (.int .u32 fb) = W7 at *
      have r0 : W7.cell? ⟨w.heap.size + 1 + 1, 0, none⟩ = some (.int .u32 fa) := L5.cell 0
      have r1 : W7.cell? ⟨w.heap.size + 1 + 1, 1, none⟩ = some (.int .u32 fb) := L5.cell 1
      exact bodyPost_ret (v := .tuple #[.agg #[.int .u32 fa, .int .u32 fb], .bool false]) (by simp [results, Try.results28, go_sem, r0, r1]) rfl ⟨rfl, v', P8, B8, X8, F8, S8⟩
section
variable {w0 w : World} {gs : Nat} {qv sv v : Value}
theorem putP_mapMid (x0 : Ext w0 w) {ps : List Pr} (hb : Blk w gs 25 [qv, sv, v]) (h : PRow w w0.heap.size v ps) (hn : ps.length ≤ 1000000) (hg : w0.heap.size ≤ gs) (a b : Int) (hh : hasP ps a = false) (i : Nat) (hidx : idxP ps (PutP a) = i) (hil : i < ps.length) :
    Calls Try.prog 28 #[.pointer (some ⟨gs, 2, none⟩), .agg #[.int .u32 a, .int .u32 b], .func (.func 16) #[] #[]] w fun e w' => e = .returned (.tuple #[.agg #[.int .u32 (findP ps a).1, .int .u32 (findP ps a).2], .bool false]) ∧ MapTo w0 w gs qv sv v (insP ps i (a, b)) w' :=
  (putP_mid w0 w gs qv sv v ps a b x0 hb h hn hg hh i hidx hil (insP ps i (a, b)) (fun W gv x hw hc hr => insAnyP w0 W v gv (a, b) ps i (Nat.le_of_lt hil) hn hr (x0.trans x) hc (fun e => by have := (World.ownsRow.lt h gv e).2; omega))).mono fun e w' ⟨he, v', h1, h2, h3, h4, h5⟩ => ⟨he, v', h1, h2, h3, h4, h5⟩
end
end Go.Proofs.Ythbngenjcgclgaa
