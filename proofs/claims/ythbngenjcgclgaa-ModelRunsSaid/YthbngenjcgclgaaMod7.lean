/- Layer 8: cut and put of pairs. Conditions: those that each theorem names. -/
import Derived.Test.YthbngenjcgclgaaMod6
import Derived.Deep.DeepCutAuto
namespace Go.Proofs.Ythbngenjcgclgaa
open Go.ChangeShapes Go.WideShapes Go.ChangeAt Go.RowKit
set_option linter.unusedVariables false
set_option maxRecDepth 100000 in
set_option maxHeartbeats 2000000 in
theorem cutP_ok (w : World) (B gs : Nat) (qv sv v : Value) (ps : List Pr) (key : Int) (hb : Blk w gs 25 [qv, sv, v]) (h : PRow w B v ps) (hn : ps.length ≤ 1000000) (hB : B ≤ w.heap.size) (hg : B ≤ gs) :
    Calls Try.prog 30 #[.pointer (some ⟨gs, 2, none⟩), .int .u32 key, .func (.func 16) #[] #[]] w fun e w' => e = .returned (.tuple #[.agg #[.int .u32 (findP ps key).1, .int .u32 (findP ps key).2], .bool (hasP ps key)]) ∧ ∃ v', PRow w' B v' (left (CutP key) ps) ∧ Blk w' gs 25 [qv, sv, v'] ∧ Fr (fun b => b = gs ∨ v.ownBlock = some b) w w' ∧ v'.ownBlock = v.ownBlock := by
  have hci : w.cell? ⟨gs, 2, none⟩ = some v := hb.cell 2
  have hfi : w.frozen? ⟨gs, 2, none⟩ = false := hb.frozen 2
  have hgl := hb.lt
  have hg1 : ¬ gs = w.heap.size := by omega
  have hg2 : ¬ gs = w.heap.size + 1 := by omega
  have hg3 : ¬ gs = w.heap.size + 1 + 1 := by omega
  have hg4 : ¬ w.heap.size = gs := by omega
  have hg5 : ¬ w.heap.size + 1 = gs := by omega
  have hg6 : ¬ w.heap.size + 1 + 1 = gs := by omega
  have HH := Lib.hid h
  have HB := Lib.hid hb
  obtain ⟨A, c, rfl, hnc, hcm, hP⟩ := h.form
  obtain ⟨n, hl⟩ : ∃ n, ps.length = n := ⟨_, rfl⟩
  have HFi := Lib.hid (fun (W : World) (x : Ext w W) => findP_ok W A ps.length c ps key rfl hn (hP.ext x))
  clear h hP hb
  rw [hl] at HFi HH HB hn hnc hci ⊢
  have HL := Lib.hid hl
  clear hl
  generalize findP ps key = fp at *
  generalize hasP ps key = hp at *
  obtain ⟨fa, fb⟩ := fp
  simp only at HFi ⊢
  have x0 := (((Ext.refl w).alloc (.cells #[.int .u32 key] 32)).alloc (.cells #[.func (.func 16) #[] #[]] 47)).alloc (.cells #[.int .u32 0, .int .u32 0] 46)
  have y4 := ((Blk.new w 32 [.int .u32 key]).ext ((Ext.refl _).alloc (.cells #[.func (.func 16) #[] #[]] 47))).ext ((Ext.refl _).alloc (.cells #[.int .u32 0, .int .u32 0] 46))
  have y5 := (Blk.new (w.alloc (.cells #[.int .u32 key] 32)) 47 [.func (.func 16) #[] #[]]).ext ((Ext.refl _).alloc (.cells #[.int .u32 0, .int .u32 0] 46))
  have y6 := Blk.new ((w.alloc (.cells #[.int .u32 key] 32)).alloc (.cells #[.func (.func 16) #[] #[]] 47)) 46 [.int .u32 0, .int .u32 0]
  rw [show (w.alloc (.cells #[.int .u32 key] 32)).heap.size = w.heap.size + 1 by simp] at y5
  rw [show ((w.alloc (.cells #[.int .u32 key] 32)).alloc (.cells #[.func (.func 16) #[] #[]] 47)).heap.size = w.heap.size + 1 + 1 by simp] at y6
  have hcW : _ := (HB.out.ext x0).cell 2
  have hfW : _ := (HB.out.ext x0).frozen 2
  have Y4 := Lib.hid y4
  have Y5 := Lib.hid y5
  have Y6 := Lib.hid y6
  have X0 := Lib.hid x0
  clear x0 y4 y5 y6
  go_enter Try.func30, Try.ntmps30
  go_upto_region 1 with fail
  generalize (((w.alloc (.cells #[.int .u32 key] 32)).alloc (.cells #[.func (.func 16) #[] #[]] 47)).alloc (.cells #[.int .u32 0, .int .u32 0] 46)) = W0 at *
  have k4 : W0.cell? ⟨w.heap.size, 0, none⟩ = some (.int .u32 key) := Y4.out.cell 0
  have k5 : W0.cell? ⟨w.heap.size + 1, 0, none⟩ = some (.func (.func 16) #[] #[]) := Y5.out.cell 0
  have s4 := Y4.out.lt
  have s5 := Y5.out.lt
  have s6 := Y6.out.lt
  have s7 : gs < W0.heap.size := by omega
  have n4 : ¬ w.heap.size = W0.heap.size := by omega
  have n5 : ¬ w.heap.size + 1 = W0.heap.size := by omega
  have n7 : ¬ gs = W0.heap.size := by omega
  simp only [List.getElem?_cons_succ, List.getElem?_cons_zero] at hcW
  clear hci hfi
  go_cut [8, 9] (fun s8 s9 wx => ∃ g8 : Nat, s8 = .pointer (some ⟨g8, 0, none⟩) ∧ s9 = .bool hp ∧ Blk wx g8 46 [.int .u32 fa, .int .u32 fb] ∧ Ext W0 wx ∧ W0.heap.size ≤ g8)
  case first =>
    have xt : Ext w W0.drew := X0.out.drew
    have xa : Ext w (W0.alloc (.cells #[.int .u32 0, .int .u32 0] 46)).drew := (X0.out.alloc _).drew
    have BN := Lib.hid ((Blk.new W0 46 [.int .u32 0, .int .u32 0]).ext ((Ext.refl _).drew))
    have HC : Hid (∀ W, Ext W0 W → W.cell? ⟨gs, 2, none⟩ = some (.slice A n c) ∧ W.cell? ⟨w.heap.size, 0, none⟩ = some (.int .u32 key) ∧ W.cell? ⟨w.heap.size + 1, 0, none⟩ = some (.func (.func 16) #[] #[])) := Lib.hid (fun W x => ⟨(World.cell?_of_block (x.block gs s7)).trans hcW, (World.cell?_of_block (x.block _ s4)).trans k4, (World.cell?_of_block (x.block _ s5)).trans k5⟩)
    go_region_held3 (fun W => W.cell? ⟨gs, 2, none⟩ = some (.slice A n c) ∧ W.cell? ⟨w.heap.size, 0, none⟩ = some (.int .u32 key) ∧ W.cell? ⟨w.heap.size + 1, 0, none⟩ = some (.func (.func 16) #[] #[])) (first | (with_reducible exact HC.out _ (((Ext.refl W0).drew).trans X5.out)) | (with_reducible exact HC.out _ ((((Ext.refl W0).alloc _).drew).trans X5.out)) | (exact HC.out _ ((((Ext.refl W0).drew).trans X5.out).alloc _)) | (exact HC.out _ ((((((Ext.refl W0).alloc _).drew).trans X5.out).setCell (p := ⟨W0.heap.size, 0, none⟩) (Nat.le_refl _) _).setCell (p := ⟨W0.heap.size, 1, none⟩) (Nat.le_refl _) _)) | go_keep) (first
      | (go_at_call 29; refine (HFi.out _ (by with_reducible exact xt)).mono ?_; rintro e w5 ⟨rfl, x5⟩; have X5 := Lib.hid x5; clear x5)
      | (go_at_call 29; refine (HFi.out _ (by with_reducible exact xa)).mono ?_; rintro e w5 ⟨rfl, x5⟩; have b8 := BN.out.ext x5; have q0 : w5.cell? ⟨W0.heap.size, 0, none⟩ = some (.int .u32 0) := b8.cell 0; have q1 : w5.cell? ⟨W0.heap.size, 1, none⟩ = some (.int .u32 0) := b8.cell 1; have z0 : w5.frozen? ⟨W0.heap.size, 0, none⟩ = false := b8.frozen 0; have z1 : w5.frozen? ⟨W0.heap.size, 1, none⟩ = false := b8.frozen 1; have B8 := Lib.hid b8; have X5 := Lib.hid x5; clear x5 b8))
    all_goals
      go_wp2_with fail
      go_meet
      first
        | exact ⟨w5.heap.size, rfl, rfl, Blk.new w5 _ [.int .u32 fa, .int .u32 fb], (((Ext.refl W0).drew).trans X5.out).alloc _, X5.out.size⟩
        | exact ⟨W0.heap.size, rfl, rfl, (B8.out.set 0 (.int .u32 fa)).set 1 (.int .u32 fb), (((((Ext.refl W0).alloc _).drew).trans X5.out).setCell (p := ⟨W0.heap.size, 0, none⟩) (Nat.le_refl _) _).setCell (p := ⟨W0.heap.size, 1, none⟩) (Nat.le_refl _) _, Nat.le_refl _⟩
  case rest =>
    obtain ⟨g8, rfl, rfl, b8, x8, l8⟩ := hcut
    generalize wc = w1 at *
    have XW := X0.out.trans x8
    have hown : ∀ q, (Value.slice A n c).ownBlock = some q → B ≤ q ∧ q < w.heap.size := fun q hq => World.ownsRow.lt HH.out q hq
    have R1 := HH.out.ext XW
    have b1 := HB.out.ext XW
    have hgsn : (Value.slice A n c).ownBlock ≠ some gs := b1.ne_row R1 (by decide)
    have d4 := Y4.out.ext x8
    have d5 := Y5.out.ext x8
    have d6 := Y6.out.ext x8
    have cw1 : w1.cell? ⟨gs, 2, none⟩ = some (.slice A n c) := b1.cell 2
    have HD := Lib.hid (delP_ok w1 B (.slice A n c) ps (CutP key) (.pointer (some ⟨w.heap.size + 1, 0, none⟩)) (.pointer (some ⟨w.heap.size, 0, none⟩)) (by rw [HL.out]; exact hn) R1 (Nat.le_trans hB XW.size) (fun W p f => by
      have e4 := d4.fr f (fun hq => by have := (hown _ hq).2; omega)
      have e5 := d5.fr f (fun hq => by have := (hown _ hq).2; omega)
      exact cutF_ok W p.1 p.2 key (w.heap.size + 1) w.heap.size (e5.cell 0) (e4.cell 0) e5.lt e4.lt))
    have HBL : Hid (∀ W, Fr (fun b => (Value.slice A n c).ownBlock = some b) w1 W → Blk W gs 25 [qv, sv, .slice A n c] ∧ Blk W g8 46 [.int .u32 fa, .int .u32 fb] ∧ Blk W (w.heap.size + 1 + 1) 46 [.int .u32 0, .int .u32 0]) := Lib.hid (fun W f => ⟨b1.fr f hgsn, b8.fr f (fun hq => by have := (hown _ hq).2; omega), d6.fr f (fun hq => by have := (hown _ hq).2; omega)⟩)
    have XX := Lib.hid XW
    clear d4 d5 d6 b1 R1 b8 XW Y4 Y5 Y6 x8 hown hcW hfW k4 k5
    have hmf : ∀ (fn : Fn) (first cap : Array Value) (w : World), (Instr.makeFunc fn first cap).run Try.prog w = .ok (.func fn first cap) w := fun _ _ _ _ => rfl
    go_wp2_with fail
    refine HD.out.mono ?_
    rintro e w6 ⟨v', rfl, r6, f6, o6⟩
    obtain ⟨e1, e2, e3⟩ := HBL.out w6 f6
    obtain ⟨A', c', rfl, _, _, _⟩ := r6.form
    have j0 : w6.cell? ⟨gs, 2, none⟩ = some (.slice A n c) := e1.cell 2
    have j1 : w6.frozen? ⟨gs, 2, none⟩ = false := e1.frozen 2
    have j2 : w6.cell? ⟨g8, 0, none⟩ = some (.int .u32 fa) := e2.cell 0
    have j3 : w6.cell? ⟨g8, 1, none⟩ = some (.int .u32 fb) := e2.cell 1
    have j4 : w6.cell? ⟨w.heap.size + 1 + 1, 0, none⟩ = some (.int .u32 0) := e3.cell 0
    have j5 : w6.cell? ⟨w.heap.size + 1 + 1, 1, none⟩ = some (.int .u32 0) := e3.cell 1
    have j6 : w6.frozen? ⟨w.heap.size + 1 + 1, 0, none⟩ = false := e3.frozen 0
    have j7 : w6.frozen? ⟨w.heap.size + 1 + 1, 1, none⟩ = false := e3.frozen 1
    have i0 : ¬ gs = g8 := by omega
    have i1 : ¬ g8 = gs := by omega
    have R6 := Lib.hid r6
    have F6 := Lib.hid f6
    have O6 := Lib.hid o6
    have E1 := Lib.hid e1
    have E3 := Lib.hid e3
    generalize hm : (left (CutP key) ps).length = m at *
    have HM := Lib.hid hm
    clear r6 f6 o6 e1 e2 e3 hm
    go_wp2_with fail
    have hown : ∀ q, (Value.slice A n c).ownBlock = some q → B ≤ q ∧ q < w.heap.size := fun q hq => World.ownsRow.lt HH.out q hq
    have fz : Fr (fun b => b = gs ∨ b = w.heap.size + 1 + 1) w6 (((w6.setCell ⟨gs, 2, none⟩ (.slice A' m c')).setCell ⟨w.heap.size + 1 + 1, 0, none⟩ (.int .u32 fa)).setCell ⟨w.heap.size + 1 + 1, 1, none⟩ (.int .u32 fb)) := Fr.setCell (p := ⟨w.heap.size + 1 + 1, 1, none⟩) (Fr.setCell (p := ⟨w.heap.size + 1 + 1, 0, none⟩) (Fr.setCell (p := ⟨gs, 2, none⟩) (Fr.refl _ w6) (Or.inl (Or.inl rfl)) _) (Or.inl (Or.inr rfl)) _) (Or.inl (Or.inr rfl)) _
    have L1 : Blk (((w6.setCell ⟨gs, 2, none⟩ (.slice A' m c')).setCell ⟨w.heap.size + 1 + 1, 0, none⟩ (.int .u32 fa)).setCell ⟨w.heap.size + 1 + 1, 1, none⟩ (.int .u32 fb)) gs 25 [qv, sv, .slice A' m c'] := ((E1.out.set 2 (.slice A' m c')).far (p := ⟨w.heap.size + 1 + 1, 0, none⟩) hg3 _).far (p := ⟨w.heap.size + 1 + 1, 1, none⟩) hg3 _
    have L5 : Blk (((w6.setCell ⟨gs, 2, none⟩ (.slice A' m c')).setCell ⟨w.heap.size + 1 + 1, 0, none⟩ (.int .u32 fa)).setCell ⟨w.heap.size + 1 + 1, 1, none⟩ (.int .u32 fb)) (w.heap.size + 1 + 1) 46 [.int .u32 fa, .int .u32 fb] := ((E3.out.far (p := ⟨gs, 2, none⟩) hg6 _).set 0 (.int .u32 fa)).set 1 (.int .u32 fb)
    have R7 := R6.out.fr fz (fun q hq hs => by
      rw [O6.out] at hq
      rcases hs with hs | hs
      · exact hgsn (by rw [← hs]; exact hq)
      · have := (hown q hq).2; omega)
    have F7 : Fr (fun b => b = gs ∨ (Value.slice A n c).ownBlock = some b) w (((w6.setCell ⟨gs, 2, none⟩ (.slice A' m c')).setCell ⟨w.heap.size + 1 + 1, 0, none⟩ (.int .u32 fa)).setCell ⟨w.heap.size + 1 + 1, 1, none⟩ (.int .u32 fb)) := ((Fr.of_ext XX.out).trans F6.out (fun q _ hq => Or.inr hq)).trans fz (fun q hq hs => by
      rcases hs with hs | hs
      · exact Or.inl hs
      · omega)
    generalize ((w6.setCell ⟨gs, 2, none⟩ (.slice A' m c')).setCell ⟨w.heap.size + 1 + 1, 0, none⟩ (.int .u32 fa)).setCell ⟨w.heap.size + 1 + 1, 1, none⟩ (.int .u32 fb) = W7 at *
    have r0 : W7.cell? ⟨w.heap.size + 1 + 1, 0, none⟩ = some (.int .u32 fa) := L5.cell 0
    have r1 : W7.cell? ⟨w.heap.size + 1 + 1, 1, none⟩ = some (.int .u32 fb) := L5.cell 1
    exact bodyPost_ret (v := .tuple #[.agg #[.int .u32 fa, .int .u32 fb], .bool hp]) (by simp [results, Try.results30, go_sem, r0, r1]) rfl ⟨rfl, _, R7, L1, F7, O6.out⟩
end Go.Proofs.Ythbngenjcgclgaa
