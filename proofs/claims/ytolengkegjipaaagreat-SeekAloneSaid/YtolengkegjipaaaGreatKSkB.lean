/- Package seek: the four parts of a step, each by what its callees leave. Conditions: those that each theorem names. -/
import Derived.Test.YtolengkegjipaaaGreatKSkA
namespace Go.Proofs.YtolengkegjipaaaGreat
open Go.ChangeShapes Go.WideShapes Go.ChangeAt Go.RowKit
set_option linter.unusedVariables false
section
variable {w : World} {gm gs gl gp : Nat} {th head key : Int} {nx : Value} {rp pp : Option Addr} {fat fwd fwh hat hwd hwh : Int} {fnd : Bool} {P G : World → Prop} {d : Bool}
set_option maxRecDepth 100000 in
set_option maxHeartbeats 4000000 in
theorem headPart_any (hG : Calls Tryz.prog 74 #[.pointer (some ⟨gs, 0, none⟩), .pointer (some ⟨gm, 0, none⟩)] w fun e w1 => e = .returned (.bool d) ∧ G w1) (hno : d = false → ∀ W, G W → P W) (hb : d = true → ∀ W, G W → Blk W gs 86 (skC gl th head key nx rp pp fat fwd fwh hat hwd hwh fnd)) (hw : W64 hwd) (hbeg : d = true → tkn hwd = true → ∀ W W', G W → Ext W W' → Calls Tryz.prog 33 #[.pointer (some ⟨gs, 0, none⟩)] W' fun e w' => (∃ u, e = .returned u) ∧ P w') (hfol : d = true → tkn hwd = false → ∀ W W', G W → Ext W W' → Calls Tryz.prog 76 #[.pointer (some ⟨gs, 0, none⟩), .agg #[.int .i64 hat, .int .u64 hwd, .int .i64 hwh]] W' fun e w' => (∃ u, e = .returned u) ∧ P w') :
    Calls Tryz.prog 56 #[.pointer (some ⟨gs, 0, none⟩), .pointer (some ⟨gm, 0, none⟩)] w fun e w' => (∃ u, e = .returned u) ∧ P w' := by
  have HG := Lib.hid hG
  have HNo := Lib.hid hno
  have HB := Lib.hid hb
  have HBe := Lib.hid hbeg
  have HFo := Lib.hid hfol
  have HW := Lib.hid hw
  have HTk := Lib.hid (fun W => isTaken_ok W hwd hw)
  clear hG hno hb hbeg hfol hw
  go_enter Tryz.func56, Tryz.ntmps56
  go_wp2_with fail
  refine HG.out.mono ?_
  rintro e w1 ⟨rfl, hg⟩
  have GG := Lib.hid hg
  clear hg HG
  cases d
  · go_wp2_with fail
    (first | (refine bodyPost_ret (results_none rfl _ _ _) rfl ?_) | (refine bodyPost_end (results_none rfl _ _ _) rfl ?_))
    exact ⟨⟨_, rfl⟩, HNo.out (by first | rfl | trivial) _ GG.out⟩
  · have BB := Lib.hid (HB.out rfl _ GG.out)
    have c11 : w1.cell? ⟨gs, 11, none⟩ = some (.int .u64 hwd) := BB.out.cell 11
    have c11b : w1.cell? ⟨gs, 10 + 1, none⟩ = some (.int .u64 hwd) := c11
    obtain ⟨tk, htk⟩ : ∃ tk, tkn hwd = tk := ⟨_, rfl⟩
    rw [htk] at HTk HBe HFo
    clear htk
    go_wp2_with fail
    refine (HTk.out _).mono ?_
    rintro e w2 ⟨rfl, x2⟩
    have X2 := Lib.hid x2
    have B2 := Lib.hid (BB.out.ext x2)
    clear x2 c11 c11b
    cases tk
    · have c10 : w2.cell? ⟨gs, 10, none⟩ = some (.int .i64 hat) := B2.out.cell 10
      have c11 : w2.cell? ⟨gs, 11, none⟩ = some (.int .u64 hwd) := B2.out.cell 11
      have c12 : w2.cell? ⟨gs, 12, none⟩ = some (.int .i64 hwh) := B2.out.cell 12
      go_wp2_with fail
      refine (HFo.out (by first | rfl | trivial) (by first | rfl | trivial) _ _ GG.out X2.out).mono ?_
      rintro e w3 ⟨⟨u, rfl⟩, hp⟩
      have PP := Lib.hid hp
      clear hp c10 c11 c12
      go_wp2_with fail
      (first | (refine bodyPost_ret (results_none rfl _ _ _) rfl ?_) | (refine bodyPost_end (results_none rfl _ _ _) rfl ?_))
      exact ⟨⟨_, rfl⟩, PP.out⟩
    · go_wp2_with fail
      refine (HBe.out (by first | rfl | trivial) (by first | rfl | trivial) _ _ GG.out X2.out).mono ?_
      rintro e w3 ⟨⟨u, rfl⟩, hp⟩
      have PP := Lib.hid hp
      clear hp
      go_wp2_with fail
      (first | (refine bodyPost_ret (results_none rfl _ _ _) rfl ?_) | (refine bodyPost_end (results_none rfl _ _ _) rfl ?_))
      exact ⟨⟨_, rfl⟩, PP.out⟩
set_option maxRecDepth 100000 in
set_option maxHeartbeats 4000000 in
theorem linkPart_any (hG : Calls Tryz.prog 74 #[.pointer (some ⟨gs, 0, none⟩), .pointer (some ⟨gm, 0, none⟩)] w fun e w1 => e = .returned (.bool d) ∧ G w1) (hno : d = false → ∀ W, G W → P W) (hb : d = true → ∀ W, G W → Blk W gs 86 (skC gl th head key nx rp pp fat fwd fwh hat hwd hwh fnd)) (hw : W64 hwd) (hf : W64 fwd) (htk : d = true → tkn hwd = true → ∀ W w' gn, G W → W.heap.size ≤ gn → Blk w' gn 156 (LsM.cells ⟨0, 0, false, false, 0⟩ th fat (soN (bhN hwd)) (clN fwd)) → Blk w' gs 86 (skC gl th head key (skF 99 gs) rp (some ⟨gn, 0, none⟩) fat fwd fwh hat hwd hwh fnd) → Fr (fun b => b = gs) W w' → P w') (hkey : d = true → tkn hwd = false → ∀ W w', G W → Blk w' gs 86 (skC gl th head key (skF 100 gs) rp pp fat fwd fwh hat hwd hwh fnd) → Fr (fun b => b = gs) W w' → P w') :
    Calls Tryz.prog 90 #[.pointer (some ⟨gs, 0, none⟩), .pointer (some ⟨gm, 0, none⟩)] w fun e w' => (∃ u, e = .returned u) ∧ P w' := by
  have HG := Lib.hid hG
  have HNo := Lib.hid hno
  have HB := Lib.hid hb
  have HTa := Lib.hid htk
  have HKe := Lib.hid hkey
  have HTk := Lib.hid (fun W => isTaken_ok W hwd hw)
  have HBh := Lib.hid (fun W (c : W.cell? ⟨gs, 11, none⟩ = some (.int .u64 hwd)) => skBehind_ok (w := W) c hw)
  have HSe := Lib.hid (fun W => newSet_ok W th fat fwd (bhN hwd) hf (bhN_rng hwd))
  clear hG hno hb htk hkey hw hf
  go_enter Tryz.func90, Tryz.ntmps90
  go_wp2_with fail
  refine HG.out.mono ?_
  rintro e w1 ⟨rfl, hg⟩
  have GG := Lib.hid hg
  clear hg HG
  cases d
  · go_wp2_with fail
    (first | (refine bodyPost_ret (results_none rfl _ _ _) rfl ?_) | (refine bodyPost_end (results_none rfl _ _ _) rfl ?_))
    exact ⟨⟨_, rfl⟩, HNo.out (by first | rfl | trivial) _ GG.out⟩
  · have BB := Lib.hid (HB.out rfl _ GG.out)
    have c11 : w1.cell? ⟨gs, 11, none⟩ = some (.int .u64 hwd) := BB.out.cell 11
    have c11b : w1.cell? ⟨gs, 10 + 1, none⟩ = some (.int .u64 hwd) := c11
    obtain ⟨tk, htk⟩ : ∃ tk, tkn hwd = tk := ⟨_, rfl⟩
    rw [htk] at HTk HTa HKe
    clear htk
    go_wp2_with fail
    refine (HTk.out _).mono ?_
    rintro e w2 ⟨rfl, x2⟩
    have X2 := Lib.hid x2
    have B2 := Lib.hid (BB.out.ext x2)
    clear x2 c11 c11b
    cases tk
    · have c4 : w2.cell? ⟨gs, 4, none⟩ = some nx := B2.out.cell 4
      have z4 : w2.frozen? ⟨gs, 4, none⟩ = false := B2.out.frozen 4
      have B3 := Lib.hid (B2.out.set 4 (skF 100 gs))
      have F3 := Lib.hid ((Fr.of_ext (S := fun b => b = gs) X2.out).setCell (p := ⟨gs, 4, none⟩) (Or.inl rfl) (skF 100 gs))
      unfold skF at *
      go_wp2_with fail
      (first | (refine bodyPost_ret (results_none rfl _ _ _) rfl ?_) | (refine bodyPost_end (results_none rfl _ _ _) rfl ?_))
      exact ⟨⟨_, rfl⟩, HKe.out (by first | rfl | trivial) (by first | rfl | trivial) _ _ GG.out B3.out F3.out⟩
    · have hlt := B2.out.lt
      have M : Hid (Blk w2.drew gs 86 (skC gl th head key nx rp pp fat fwd fwh hat hwd hwh fnd) ∧ Fr (fun b => b = gs) w1 w2.drew ∧ w2.heap.size ≤ w2.drew.heap.size) := Lib.hid ⟨B2.out.ext ((Ext.refl w2).drew), (Fr.of_ext X2.out).then_ext ((Ext.refl w2).drew), ((Ext.refl w2).drew).size⟩
      have HP : Hid (∀ W cs, cs[1]? = some (.int .i64 th) → cs[7]? = some (.int .i64 fat) → cs[8]? = some (.int .u64 fwd) → cs[11]? = some (.int .u64 hwd) → Blk W gs 86 cs → W.cell? ⟨gs, 1, none⟩ = some (.int .i64 th) ∧ W.cell? ⟨gs, 7, none⟩ = some (.int .i64 fat) ∧ W.cell? ⟨gs, 7 + 1, none⟩ = some (.int .u64 fwd) ∧ W.cell? ⟨gs, 11, none⟩ = some (.int .u64 hwd)) := Lib.hid (fun W cs h1 h7 h8 h11 b => ⟨(b.cell 1).trans h1, (b.cell 7).trans h7, (b.cell 8).trans h8, (b.cell 11).trans h11⟩)
      have c1 : w2.cell? ⟨gs, 1, none⟩ = some (.int .i64 th) := B2.out.cell 1
      have c7 : w2.cell? ⟨gs, 7, none⟩ = some (.int .i64 fat) := B2.out.cell 7
      have c8 : w2.cell? ⟨gs, 7 + 1, none⟩ = some (.int .u64 fwd) := B2.out.cell 8
      have c11 : w2.cell? ⟨gs, 11, none⟩ = some (.int .u64 hwd) := B2.out.cell 11
      obtain ⟨bh, hbh⟩ : ∃ bh, bhN hwd = bh := ⟨_, rfl⟩
      have HEb := Lib.hid hbh
      rw [hbh] at HBh HSe HTa
      clear hbh
      go_wp2_with fail
      go_region_held3 (fun W => W.cell? ⟨gs, 1, none⟩ = some (.int .i64 th) ∧ W.cell? ⟨gs, 7, none⟩ = some (.int .i64 fat) ∧ W.cell? ⟨gs, 7 + 1, none⟩ = some (.int .u64 fwd) ∧ W.cell? ⟨gs, 11, none⟩ = some (.int .u64 hwd)) (first | exact HP.out _ _ rfl rfl rfl rfl M.out.1 | exact HP.out _ _ rfl rfl rfl rfl BS.out | go_keep) (first
        | (go_at_call 98; refine (HBh.out _ (M.out.1.cell 11)).mono ?_; rintro e w3 ⟨rfl, x3⟩; replace M := Lib.hid (And.intro (M.out.1.ext x3) (And.intro (M.out.2.1.then_ext x3) (Nat.le_trans M.out.2.2 x3.size))); clear x3)
        | (go_at_call 97; refine (HSe.out _).mono ?_; rintro e w4 ⟨gn, rfl, hgn, bn, x4⟩; have HN : Hid (gn ≠ gs ∧ w1.heap.size ≤ gn) := Lib.hid (by have h1 := M.out.1.lt; have h2 := M.out.2.1.size; exact ⟨by omega, by omega⟩); have b4 := M.out.1.ext x4; have c6 : w4.cell? ⟨gs, 6, none⟩ = some (.pointer pp) := b4.cell 6; have z6 : w4.frozen? ⟨gs, 6, none⟩ = false := b4.frozen 6; have BS := Lib.hid (b4.set 6 (.pointer (some ⟨gn, 0, none⟩))); have FS := Lib.hid ((M.out.2.1.then_ext x4).setCell (p := ⟨gs, 6, none⟩) (Or.inl rfl) (.pointer (some ⟨gn, 0, none⟩))); have NS := Lib.hid (bn.far (p := ⟨gs, 6, none⟩) HN.out.1 (.pointer (some ⟨gn, 0, none⟩))); replace M := Lib.hid (And.intro b4 (And.intro (M.out.2.1.then_ext x4) (Nat.le_trans M.out.2.2 x4.size))); clear b4 x4 bn hgn))
      all_goals
        clear M c1 c7 c8 c11 c6 z6
        generalize w4.setCell ⟨gs, 6, none⟩ (.pointer (some ⟨gn, 0, none⟩)) = w5 at *
        have c4 : w5.cell? ⟨gs, 4, none⟩ = some nx := BS.out.cell 4
        have z4 : w5.frozen? ⟨gs, 4, none⟩ = false := BS.out.frozen 4
        have B6 := Lib.hid (BS.out.set 4 (skF 99 gs))
        have F6 := Lib.hid (FS.out.setCell (p := ⟨gs, 4, none⟩) (Or.inl rfl) (skF 99 gs))
        have N6 := Lib.hid (NS.out.far (p := ⟨gs, 4, none⟩) HN.out.1 (skF 99 gs))
        unfold skF at *
        go_wp2_with fail
        (first | (refine bodyPost_ret (results_none rfl _ _ _) rfl ?_) | (refine bodyPost_end (results_none rfl _ _ _) rfl ?_))
        exact ⟨⟨_, rfl⟩, HTa.out (by first | rfl | trivial) (by first | rfl | trivial) _ _ _ GG.out HN.out.2 N6.out B6.out F6.out⟩
set_option maxRecDepth 100000 in
set_option maxHeartbeats 4000000 in
theorem pastPart_any {y : LsM} (c6 : w.cell? ⟨gs, 6, none⟩ = some (.pointer (some ⟨gp, 0, none⟩))) (hG : Calls Tryz.prog 108 #[.pointer (some ⟨gp, 0, none⟩), .pointer (some ⟨gm, 0, none⟩)] w fun e w1 => e = .returned (.bool d) ∧ G w1) (hno : d = false → ∀ W, G W → P W) (hb : ∀ W, G W → Blk W gs 86 (skC gl th head key nx rp (some ⟨gp, 0, none⟩) fat fwd fwh hat hwd hwh fnd)) {wd old : Int} (hs : ∀ W, G W → Blk W gp 156 (y.cells th fat wd old)) (hw : W64 hwd) (hbeg : d = true → y.put = false → ∀ W W', G W → Ext W W' → Calls Tryz.prog 33 #[.pointer (some ⟨gs, 0, none⟩)] W' fun e w' => (∃ u, e = .returned u) ∧ P w') (hfol : d = true → y.put = true → ∀ W W', G W → Ext W W' → Calls Tryz.prog 76 #[.pointer (some ⟨gs, 0, none⟩), .agg #[.int .i64 fat, .int .u64 (bhN hwd), .int .i64 y.wh]] W' fun e w' => (∃ u, e = .returned u) ∧ P w' ∧ (w'.cell? ⟨gs, 7, none⟩ = some (.int .i64 fat) ∧ w'.cell? ⟨gs, 6, none⟩ = some (.pointer (some ⟨gp, 0, none⟩)))) :
    Calls Tryz.prog 99 #[.pointer (some ⟨gs, 0, none⟩), .pointer (some ⟨gm, 0, none⟩)] w fun e w' => (∃ u, e = .returned u) ∧ P w' := by
  obtain ⟨pt, wh, dn, put, wr⟩ := y
  simp only at hbeg hfol
  have HG := Lib.hid hG
  have HNo := Lib.hid hno
  have HB := Lib.hid hb
  have HBe := Lib.hid hbeg
  have HFo := Lib.hid hfol
  have HSs := Lib.hid hs
  have HBh := Lib.hid (fun W (c : W.cell? ⟨gs, 11, none⟩ = some (.int .u64 hwd)) => skBehind_ok (w := W) c hw)
  clear hG hno hb hbeg hfol hw hs
  go_enter Tryz.func99, Tryz.ntmps99
  go_wp2_with fail
  refine HG.out.mono ?_
  rintro e w1 ⟨rfl, hg⟩
  have GG := Lib.hid hg
  clear hg HG c6
  cases d
  · go_wp2_with fail
    (first | (refine bodyPost_ret (results_none rfl _ _ _) rfl ?_) | (refine bodyPost_end (results_none rfl _ _ _) rfl ?_))
    exact ⟨⟨_, rfl⟩, HNo.out (by first | rfl | trivial) _ GG.out⟩
  · have BB := Lib.hid (HB.out _ GG.out)
    have SS := Lib.hid (HSs.out _ GG.out)
    have c6 : w1.cell? ⟨gs, 6, none⟩ = some (.pointer (some ⟨gp, 0, none⟩)) := BB.out.cell 6
    go_wp2_with fail
    refine (lsPut_ok w1 gp put (SS.out.cell 7)).mono ?_
    rintro e w2 ⟨rfl, rfl⟩
    cases put
    · go_wp2_with fail
      refine (HBe.out (by first | rfl | trivial) (by first | rfl | trivial) _ _ GG.out (Ext.refl _)).mono ?_
      rintro e w3 ⟨⟨u, rfl⟩, hp⟩
      have PP := Lib.hid hp
      clear hp
      go_wp2_with fail
      (first | (refine bodyPost_ret (results_none rfl _ _ _) rfl ?_) | (refine bodyPost_end (results_none rfl _ _ _) rfl ?_))
      exact ⟨⟨_, rfl⟩, PP.out⟩
    · have X : Hid (Ext w1 w1.drew) := Lib.hid ((Ext.refl w1).drew)
      have HP : Hid (∀ W, Ext w1 W → W.cell? ⟨gs, 7, none⟩ = some (.int .i64 fat) ∧ W.cell? ⟨gs, 6, none⟩ = some (.pointer (some ⟨gp, 0, none⟩))) := Lib.hid (fun W x => ⟨(BB.out.ext x).cell 7, (BB.out.ext x).cell 6⟩)
      have HWh : Hid (∀ W, Ext w1 W → Calls Tryz.prog 110 #[.pointer (some ⟨gp, 0, none⟩)] W fun e w' => e = .returned (.int .i64 wh) ∧ Ext W w') := Lib.hid (fun W x => (lsWhen_ok W gp wh true ((SS.out.ext x).cell 4) ((SS.out.ext x).cell 7)).mono (by rintro e w' ⟨rfl, xx⟩; exact ⟨rfl, by first | exact xx | (rw [← xx]; exact Ext.refl _)⟩))
      have c7 : w1.cell? ⟨gs, 7, none⟩ = some (.int .i64 fat) := BB.out.cell 7
      have c11 : w1.cell? ⟨gs, 11, none⟩ = some (.int .u64 hwd) := BB.out.cell 11
      obtain ⟨bh, hbh⟩ : ∃ bh, bhN hwd = bh := ⟨_, rfl⟩
      rw [hbh] at HBh HFo
      clear hbh
      go_wp2_with fail
      go_region_held3 (fun W => W.cell? ⟨gs, 7, none⟩ = some (.int .i64 fat) ∧ W.cell? ⟨gs, 6, none⟩ = some (.pointer (some ⟨gp, 0, none⟩))) (first | exact HP.out _ X.out | exact PS.out | go_keep) (first
        | (go_at_call 98; refine (HBh.out _ ((BB.out.ext X.out).cell 11)).mono ?_; rintro e w3 ⟨rfl, x3⟩; replace X := Lib.hid (X.out.trans x3); clear x3)
        | (go_at_call 110; refine (HWh.out _ X.out).mono ?_; rintro e w3 ⟨rfl, x3⟩; replace X := Lib.hid (X.out.trans x3); clear x3)
        | (go_at_call 76; refine (HFo.out (by first | rfl | trivial) (by first | rfl | trivial) _ _ GG.out X.out).mono ?_; rintro e w4 ⟨⟨u, rfl⟩, hp, h76⟩; have PP := Lib.hid hp; have PS := Lib.hid h76; clear hp h76))
      all_goals
        go_wp2_with fail
        (first | (refine bodyPost_ret (results_none rfl _ _ _) rfl ?_) | (refine bodyPost_end (results_none rfl _ _ _) rfl ?_))
        exact ⟨⟨_, rfl⟩, PP.out⟩
end
section
variable {Q : Nat → Prop} {w0 w : World} {gm gs gl : Nat} {dv pv : Value} {s : MSt} {F : Nat → Int} {th head key : Int} {nx : Value} {rp pp : Option Addr} {fat fwd fwh hat hwd hwh : Int} {fnd : Bool} {P : World → Prop}
set_option maxRecDepth 100000 in
set_option maxHeartbeats 4000000 in
theorem keyPart_any (h : IsMem Q w w0 w gm dv pv s) (hc : Calm s) (ok : Okay F) (hl : Blk w gl 97 (cellsF F)) (hb : Blk w gs 86 (skC gl th head key nx rp pp fat fwd fwh hat hwd hwh fnd)) (qs : Q gs) (ql : Q gl) (hf : W64 fwd) (hk : 0 ≤ key ∧ key < 4294967296) (hU : ∀ a, W64 (peekV s a)) (hfol : (peekV s (keyN F (toN fwd)) % 4294967296) < key → ∀ W, IsMem Q w w0 W gm dv pv (s.load th (keyN F (toN fwd))) → Calls Tryz.prog 76 #[.pointer (some ⟨gs, 0, none⟩), .agg #[.int .i64 hat, .int .u64 hwd, .int .i64 hwh]] W fun e w' => (∃ u, e = .returned u) ∧ P w') (hend : ¬ (peekV s (keyN F (toN fwd)) % 4294967296) < key → ∀ W, IsMem Q w w0 W gm dv pv (s.load th (keyN F (toN fwd))) → P ((W.setCell ⟨gs, 13, none⟩ (.bool ((peekV s (keyN F (toN fwd)) % 4294967296) == key))).setCell ⟨gs, 4, none⟩ .nilFunc)) :
    Calls Tryz.prog 100 #[.pointer (some ⟨gs, 0, none⟩), .pointer (some ⟨gm, 0, none⟩)] w fun e w' => (∃ u, e = .returned u) ∧ P w' := by
  have har := keyN_rng ok (toN fwd)
  have HK : Hid (∀ W s', IsMem Q w w0 W gm dv pv s' → Blk W gs 86 (skC gl th head key nx rp pp fat fwd fwh hat hwd hwh fnd) ∧ Blk W gl 97 (cellsF F)) := Lib.hid (fun W s' m => ⟨(m.keptQ gs qs).trans hb, (m.keptQ gl ql).trans hl⟩)
  have HP : Hid (∀ W s', IsMem Q w w0 W gm dv pv s' → W.cell? ⟨gs, 0, none⟩ = some (.pointer (some ⟨gl, 0, none⟩)) ∧ W.cell? ⟨gs, 1, none⟩ = some (.int .i64 th)) := Lib.hid (fun W s' m => ⟨(HK.out W s' m).1.cell 0, (HK.out W s' m).1.cell 1⟩)
  have HSl := Lib.hid (fun W s' (m : IsMem Q w w0 W gm dv pv s') => skSlot_ok (w := W) ((HK.out W s' m).1.cell 8) hf)
  have HKy := Lib.hid (fun W s' (m : IsMem Q w w0 W gm dv pv s') => key_ok ok gl (toN fwd) W (HK.out W s' m).2)
  have HLo := Lib.hid (fun W (m : IsMem Q w w0 W gm dv pv s) => memLoad_ok m th (keyN F (toN fwd)) har.1 har.2 hc)
  have hv := hU (keyN F (toN fwd))
  have HFo := Lib.hid hfol
  have HEn := Lib.hid hend
  have M := Lib.hid (h.ext ((Ext.refl w).drew))
  have c0 : w.cell? ⟨gs, 0, none⟩ = some (.pointer (some ⟨gl, 0, none⟩)) := hb.cell 0
  have c1 : w.cell? ⟨gs, 1, none⟩ = some (.int .i64 th) := hb.cell 1
  clear hfol hend h hc ok hl hb har hU hf
  generalize toN fwd = sl at *
  generalize keyN F sl = ka at *
  generalize peekV s ka = v at *
  generalize s.load th ka = s1 at *
  have wk : IntKind.u32.wrap v = v % 4294967296 := by unfold IntKind.wrap; simp [IntKind.signed, IntKind.bits]
  obtain ⟨k, hk2⟩ : ∃ k, v % 4294967296 = k := ⟨_, rfl⟩
  rw [hk2] at wk HFo HEn
  have wk2 : IntKind.u32.wrap v = k := wk
  clear hk2 hv hk
  go_enter Tryz.func100, Tryz.ntmps100
  go_wp2_with fail
  go_region_held3 (fun W => W.cell? ⟨gs, 0, none⟩ = some (.pointer (some ⟨gl, 0, none⟩)) ∧ W.cell? ⟨gs, 1, none⟩ = some (.int .i64 th)) (first | exact HP.out _ _ M.out | go_keep) (first
    | (go_at_call 37; refine (HSl.out _ _ M.out).mono ?_; rintro e w1 ⟨rfl, x1⟩; replace M := Lib.hid (M.out.ext x1); clear x1)
    | (go_at_call 111; refine (HKy.out _ _ M.out).mono ?_; rintro e w1 ⟨rfl, x1⟩; replace M := Lib.hid (M.out.ext x1); clear x1)
    | (go_at_call 101; refine (HLo.out _ M.out).mono ?_; rintro e w2 ⟨rfl, m1⟩; replace M := Lib.hid m1; clear m1))
  all_goals
    have BB := Lib.hid (HK.out _ _ M.out).1
    have d3 : w2.cell? ⟨gs, 3, none⟩ = some (.int .u32 key) := BB.out.cell 3
    clear c0 c1
    by_cases hlt : k < key
    · have e0 : decide (k < key) = true := by simpa using hlt
      have HLt := Lib.hid hlt
      clear hlt
      have d10 : w2.cell? ⟨gs, 10, none⟩ = some (.int .i64 hat) := BB.out.cell 10
      have d11 : w2.cell? ⟨gs, 11, none⟩ = some (.int .u64 hwd) := BB.out.cell 11
      have d12 : w2.cell? ⟨gs, 12, none⟩ = some (.int .i64 hwh) := BB.out.cell 12
      go_wp2_with fail
      refine (HFo.out HLt.out _ M.out).mono ?_
      rintro e w3 ⟨⟨u, rfl⟩, hp⟩
      have PP := Lib.hid hp
      clear hp d3 d10 d11 d12
      go_wp2_with fail
      (first | (refine bodyPost_ret (results_none rfl _ _ _) rfl ?_) | (refine bodyPost_end (results_none rfl _ _ _) rfl ?_))
      exact ⟨⟨_, rfl⟩, PP.out⟩
    · have e0 : decide (k < key) = false := by simpa using hlt
      have PE := Lib.hid (HEn.out (by omega) _ M.out)
      have d13 : w2.cell? ⟨gs, 13, none⟩ = some (.bool fnd) := BB.out.cell 13
      have z13 : w2.frozen? ⟨gs, 13, none⟩ = false := BB.out.frozen 13
      have b2 := BB.out.set 13 (.bool (k == key))
      have d4 : (w2.setCell ⟨gs, 13, none⟩ (.bool (k == key))).cell? ⟨gs, 4, none⟩ = some nx := b2.cell 4
      have z4 : (w2.setCell ⟨gs, 13, none⟩ (.bool (k == key))).frozen? ⟨gs, 4, none⟩ = false := b2.frozen 4
      clear b2 hlt
      go_wp2_with fail
      (first | (refine bodyPost_ret (results_none rfl _ _ _) rfl ?_) | (refine bodyPost_end (results_none rfl _ _ _) rfl ?_))
      exact ⟨⟨_, rfl⟩, PE.out⟩
end
end Go.Proofs.YtolengkegjipaaaGreat


/- A Seek's state, and a step of it, whatever its part. Conditions: those that each theorem names. -/
namespace Go.Proofs.YtolengkegjipaaaGreat
open Go.ChangeShapes Go.WideShapes Go.ChangeAt Go.RowKit
set_option linter.unusedVariables false
/-- A Seek: its part (0: done; 1: the head's link is read; 2: a slot's; 3: what was taken away is passed; 4: the key), where it came from, where it is, and its Read, or its Set. -/
structure SkM where
  part : Nat
  rp : Option Addr
  pp : Option Addr
  fat : Int
  fwd : Int
  fwh : Int
  hat : Int
  hwd : Int
  hwh : Int
  fnd : Bool
  rd : Option (Nat × LrM)
  ps : Option (Nat × LsM)
def nxSk (k gs : Nat) : Value :=
  match k with
  | 0 => .nilFunc
  | 1 => skF 56 gs
  | 2 => skF 90 gs
  | 3 => skF 99 gs
  | _ => skF 100 gs
def SkM.cells (x : SkM) (gl gs : Nat) (th head key : Int) : List Value := skC gl th head key (nxSk x.part gs) x.rp x.pp x.fat x.fwd x.fwh x.hat x.hwd x.hwh x.fnd
def SkM.ownB (x : SkM) (b : Nat) : Prop := (∃ q, x.rd = some q ∧ b = q.1) ∨ ∃ q, x.ps = some q ∧ b = q.1
def lr0 : LrM := ⟨0, 0, 0, false⟩
def ls0 : LsM := ⟨0, 0, false, false, 0⟩
/-- It begins at the head; n: its Read's block. -/
def SkM.beg (x : SkM) (head : Int) (n : Nat) : SkM := ⟨1, some ⟨n, 0, none⟩, x.pp, x.fat, x.fwd, x.fwh, head, 0, 0, x.fnd, some (n, lr0), none⟩
/-- It goes on by a link. -/
def SkM.fol (F : Nat → Int) (x : SkM) (a v u : Int) (n : Nat) : SkM :=
  if toN v = -1 then ⟨0, x.rp, x.pp, a, v, u, 0, 0, 0, x.fnd, none, none⟩
  else ⟨2, some ⟨n, 0, none⟩, x.pp, a, v, u, nxtN F (toN v), 0, 0, x.fnd, some (n, lr0), none⟩
def sk1 (F : Nat → Int) (head : Int) (x : SkM) (g : Nat) (p : LrM × MSt) (n : Nat) : SkM × MSt :=
  (if p.1.dn = false then ⟨1, x.rp, x.pp, x.fat, x.fwd, x.fwh, x.hat, x.hwd, x.hwh, x.fnd, some (g, p.1), none⟩ else if tkn p.1.wd = true then x.beg head n else x.fol F x.hat p.1.wd p.1.wh n, p.2)
def sk2 (x : SkM) (g : Nat) (p : LrM × MSt) (n : Nat) : SkM × MSt :=
  (if p.1.dn = false then ⟨2, x.rp, x.pp, x.fat, x.fwd, x.fwh, x.hat, x.hwd, x.hwh, x.fnd, some (g, p.1), none⟩ else if tkn p.1.wd = true then ⟨3, x.rp, some ⟨n, 0, none⟩, x.fat, x.fwd, x.fwh, x.hat, p.1.wd, p.1.wh, x.fnd, none, some (n, ls0)⟩ else ⟨4, x.rp, x.pp, x.fat, x.fwd, x.fwh, x.hat, p.1.wd, p.1.wh, x.fnd, none, none⟩, p.2)
def sk3 (F : Nat → Int) (head : Int) (x : SkM) (g : Nat) (p : LsM × MSt) (n : Nat) : SkM × MSt :=
  (if p.1.dn = false then ⟨3, x.rp, x.pp, x.fat, x.fwd, x.fwh, x.hat, x.hwd, x.hwh, x.fnd, none, some (g, p.1)⟩ else if p.1.put = false then x.beg head n else x.fol F x.fat (bhN x.hwd) p.1.wh n, p.2)
def sk4 (F : Nat → Int) (th key : Int) (x : SkM) (s : MSt) (n : Nat) : SkM × MSt :=
  (if peekV s (keyN F (toN x.fwd)) % 4294967296 < key then x.fol F x.hat x.hwd x.hwh n else ⟨0, x.rp, x.pp, x.fat, x.fwd, x.fwh, x.hat, x.hwd, x.hwh, peekV s (keyN F (toN x.fwd)) % 4294967296 == key, none, none⟩, s.load th (keyN F (toN x.fwd)))
/-- What a Seek's step leaves; n: the block that it makes, if it makes one. -/
def skS (F : Nat → Int) (th head key : Int) (x : SkM) (s : MSt) (n : Nat) : SkM × MSt :=
  match x.part with
  | 0 => (x, s)
  | 1 => match x.rd with | none => (x, s) | some q => sk1 F head x q.1 (lrS th x.hat q.2 s) n
  | 2 => match x.rd with | none => (x, s) | some q => sk2 x q.1 (lrS th x.hat q.2 s) n
  | 3 => match x.ps with | none => (x, s) | some q => sk3 F head x q.1 (lsS th x.fat (soN (bhN x.hwd)) (clN x.fwd) q.2 s) n
  | _ => sk4 F th key x s n
def lsOk (y : LsM) : Prop := y.part = 0 ∨ y.part = 1 ∨ y.part = 2 ∨ y.part = 3
structure SkM.Wf (x : SkM) : Prop where
  part : x.part ≤ 4
  fat : I64 x.fat
  hat : I64 x.hat
  fwd : W64 x.fwd
  hwd : W64 x.hwd
  rd : x.part = 1 ∨ x.part = 2 → ∃ g y, x.rd = some (g, y) ∧ x.rp = some ⟨g, 0, none⟩ ∧ y.Wf ∧ y.dn = false
  nrd : ¬ (x.part = 1 ∨ x.part = 2) → x.rd = none
  ps : x.part = 3 → ∃ g y, x.ps = some (g, y) ∧ x.pp = some ⟨g, 0, none⟩ ∧ lsOk y ∧ y.dn = false
  nps : x.part ≠ 3 → x.ps = none
  sl : 2 ≤ x.part → 0 ≤ toN x.fwd
theorem lr0_wf : lr0.Wf := ⟨Or.inl rfl, w64_0⟩
theorem lrS_wf {t a : Int} {x : LrM} {s : MSt} (h : x.Wf) (hU : ∀ a, W64 (peekV s a)) : (lrS t a x s).1.Wf := by
  obtain ⟨part, wd, wh, dn⟩ := x
  obtain ⟨hp, hw⟩ := h
  unfold lrS
  simp only at hp hw ⊢
  repeat' split
  · exact ⟨hp, hw⟩
  · exact ⟨Or.inr (Or.inl rfl), hU a⟩
  · exact ⟨Or.inl rfl, hU a⟩
  · exact ⟨Or.inr (Or.inr (Or.inl rfl)), hw⟩
  · exact ⟨Or.inr (Or.inr (Or.inr rfl)), hw⟩
  · exact ⟨Or.inl rfl, hw⟩
theorem SkM.beg_wf {x : SkM} (h : x.Wf) {head : Int} (hh : I64 head) (n : Nat) : (x.beg head n).Wf :=
  ⟨(by show 1 ≤ 4; omega), h.fat, hh, h.fwd, w64_0, fun _ => ⟨n, lr0, rfl, rfl, lr0_wf, rfl⟩, fun hn => absurd (Or.inl rfl) hn, fun (e : (1 : Nat) = 3) => absurd e (by decide), fun _ => rfl, fun (e : 2 ≤ (1 : Nat)) => absurd e (by decide)⟩
theorem SkM.fol_wf {F : Nat → Int} (ok : Okay F) {x : SkM} {a v u : Int} (ha : I64 a) (hv : W64 v) (n : Nat) : (x.fol F a v u n).Wf := by
  unfold SkM.fol
  split
  · exact ⟨(by show 0 ≤ 4; omega), ha, i64_0, hv, w64_0, fun e => e.elim (fun (e : (0 : Nat) = 1) => absurd e (by decide)) (fun (e : (0 : Nat) = 2) => absurd e (by decide)), fun _ => rfl, fun (e : (0 : Nat) = 3) => absurd e (by decide), fun _ => rfl, fun (e : 2 ≤ (0 : Nat)) => absurd e (by decide)⟩
  · rename_i hn
    have hr := toN_rng hv
    exact ⟨(by show 2 ≤ 4; omega), ha, nxtN_rng ok _, hv, w64_0, fun _ => ⟨n, lr0, rfl, rfl, lr0_wf, rfl⟩, fun hn => absurd (Or.inr rfl) hn, fun (e : (2 : Nat) = 3) => absurd e (by decide), fun _ => rfl, fun _ => (by show 0 ≤ toN v; omega)⟩
theorem skS_wf {F : Nat → Int} (ok : Okay F) {th head key : Int} (hh : I64 head) {x : SkM} {s : MSt} (hU : ∀ a, W64 (peekV s a)) (h : x.Wf) (n : Nat) : (skS F th head key x s n).1.Wf := by
  have hp := h.part
  have hcs : x.part = 0 ∨ x.part = 1 ∨ x.part = 2 ∨ x.part = 3 ∨ x.part = 4 := by omega
  rcases hcs with e | e | e | e | e
  · obtain ⟨part, rp, pp, fat, fwd, fwh, hat, hwd, hwh, fnd, rd, ps⟩ := x
    have e' : part = 0 := e
    subst e'
    exact h
  · obtain ⟨g, y, e1, e2, hy, hd⟩ := h.rd (Or.inl e)
    have hw := lrS_wf (t := th) (a := x.hat) hy hU
    obtain ⟨part, rp, pp, fat, fwd, fwh, hat, hwd, hwh, fnd, rd, ps⟩ := x
    simp only at e e1 e2 hw
    subst e e1 e2
    have hps : ps = none := h.nps (show (1 : Nat) ≠ 3 by decide)
    subst hps
    show (sk1 F head _ g (lrS th hat y s) n).1.Wf
    generalize lrS th hat y s = p at *
    unfold sk1
    simp only
    split
    · rename_i hdn
      exact ⟨h.part, h.fat, h.hat, h.fwd, h.hwd, fun _ => ⟨g, p.1, rfl, rfl, hw, hdn⟩, fun hn => absurd (Or.inl rfl) hn, fun (e : (1 : Nat) = 3) => absurd e (by decide), fun _ => rfl, fun (e : 2 ≤ (1 : Nat)) => absurd e (by decide)⟩
    · split
      · exact SkM.beg_wf h hh n
      · exact SkM.fol_wf ok h.hat hw.wd n
  · obtain ⟨g, y, e1, e2, hy, hd⟩ := h.rd (Or.inr e)
    have hw := lrS_wf (t := th) (a := x.hat) hy hU
    have hsl := h.sl (by omega)
    obtain ⟨part, rp, pp, fat, fwd, fwh, hat, hwd, hwh, fnd, rd, ps⟩ := x
    simp only at e e1 e2 hw hsl
    subst e e1 e2
    show (sk2 _ g (lrS th hat y s) n).1.Wf
    generalize lrS th hat y s = p at *
    unfold sk2
    simp only
    split
    · rename_i hdn
      exact ⟨h.part, h.fat, h.hat, h.fwd, h.hwd, fun _ => ⟨g, p.1, rfl, rfl, hw, hdn⟩, fun hn => absurd (Or.inr rfl) hn, fun (e : (2 : Nat) = 3) => absurd e (by decide), fun _ => rfl, fun _ => hsl⟩
    · split
      · exact ⟨(by show 3 ≤ 4; omega), h.fat, h.hat, h.fwd, hw.wd, fun e => e.elim (fun (e : (3 : Nat) = 1) => absurd e (by decide)) (fun (e : (3 : Nat) = 2) => absurd e (by decide)), fun _ => rfl, fun _ => ⟨n, ls0, rfl, rfl, Or.inl rfl, rfl⟩, fun hn => absurd rfl hn, fun _ => hsl⟩
      · exact ⟨(by show 4 ≤ 4; omega), h.fat, h.hat, h.fwd, hw.wd, fun e => e.elim (fun (e : (4 : Nat) = 1) => absurd e (by decide)) (fun (e : (4 : Nat) = 2) => absurd e (by decide)), fun _ => rfl, fun (e : (4 : Nat) = 3) => absurd e (by decide), fun _ => rfl, fun _ => hsl⟩
  · obtain ⟨g, y, e1, e2, hy, hd⟩ := h.ps e
    have hsl := h.sl (by omega)
    have hw := lsS_part (t := th) (a := x.fat) (wd := soN (bhN x.hwd)) (old := clN x.fwd) (s := s) hy
    obtain ⟨part, rp, pp, fat, fwd, fwh, hat, hwd, hwh, fnd, rd, ps⟩ := x
    simp only at e e1 e2 hw hsl
    subst e e1 e2
    show (sk3 F head _ g (lsS th fat (soN (bhN hwd)) (clN fwd) y s) n).1.Wf
    generalize lsS th fat (soN (bhN hwd)) (clN fwd) y s = p at *
    unfold sk3
    simp only
    split
    · rename_i hdn
      exact ⟨h.part, h.fat, h.hat, h.fwd, h.hwd, fun e => e.elim (fun (e : (3 : Nat) = 1) => absurd e (by decide)) (fun (e : (3 : Nat) = 2) => absurd e (by decide)), fun _ => rfl, fun _ => ⟨g, p.1, rfl, rfl, hw, hdn⟩, fun hn => absurd rfl hn, fun _ => hsl⟩
    · split
      · exact SkM.beg_wf h hh n
      · exact SkM.fol_wf ok h.fat (bhN_rng hwd) n
  · obtain ⟨part, rp, pp, fat, fwd, fwh, hat, hwd, hwh, fnd, rd, ps⟩ := x
    simp only at e
    subst e
    show (sk4 F th key _ s n).1.Wf
    unfold sk4
    simp only
    split
    · exact SkM.fol_wf ok h.hat h.hwd n
    · exact ⟨(by show 0 ≤ 4; omega), h.fat, h.hat, h.fwd, h.hwd, fun e => e.elim (fun (e : (0 : Nat) = 1) => absurd e (by decide)) (fun (e : (0 : Nat) = 2) => absurd e (by decide)), fun _ => rfl, fun (e : (0 : Nat) = 3) => absurd e (by decide), fun _ => rfl, fun (e : 2 ≤ (0 : Nat)) => absurd e (by decide)⟩
/-- A Seek, and all that it has of its own. -/
structure SkAt (Q : Nat → Prop) (w0 w : World) (gm gs gl : Nat) (dv pv : Value) (th head key : Int) (x : SkM) (s : MSt) : Prop where
  mem : IsMem (fun b => Q b ∨ x.ownB b) w w0 w gm dv pv s
  blk : Blk w gs 86 (x.cells gl gs th head key)
  rd : ∀ q, x.rd = some q → (¬ Q q.1 ∧ w0.heap.size ≤ q.1) ∧ Blk w q.1 147 (q.2.cells th x.hat)
  ps : ∀ q, x.ps = some q → (¬ Q q.1 ∧ w0.heap.size ≤ q.1) ∧ Blk w q.1 156 (q.2.cells th x.fat (soN (bhN x.hwd)) (clN x.fwd))
section
variable {Q : Nat → Prop} {w0 w w' : World} {gm gs gl : Nat} {dv pv : Value} {s s' : MSt} {F : Nat → Int} {th head key : Int} {x x' : SkM}
theorem SkAt.ext (h : SkAt Q w0 w gm gs gl dv pv th head key x s) (e : Ext w w') : SkAt Q w0 w' gm gs gl dv pv th head key x s :=
  ⟨(h.mem.ext e).here, h.blk.ext e, fun q hq => ⟨(h.rd q hq).1, (h.rd q hq).2.ext e⟩, fun q hq => ⟨(h.ps q hq).1, (h.ps q hq).2.ext e⟩⟩
/-- A new Read of its own, behind what was done to its block alone. -/
theorem SkAt.mkRd (m : IsMem Q w w0 w gm dv pv s) (qs : Q gs) (p0 : w0.heap.size ≤ gs) (f : Fr (fun b => b = gs) w w') {n : Nat} (hn : w.heap.size ≤ n) (bn : Blk w' n 147 (lr0.cells th x'.hat)) (bs : Blk w' gs 86 (x'.cells gl gs th head key)) (er : x'.rd = some (n, lr0)) (ep : x'.ps = none) : SkAt Q w0 w' gm gs gl dv pv th head key x' s := by
  refine ⟨m.holdT f (fun g hg => by rw [hg]; exact qs) (fun g hg => by rw [hg]; exact p0) (fun g hg => ?_), bs, fun q e => ?_, fun q e => by rw [ep] at e; cases e⟩
  · rcases hg with hg | ⟨q, e, rfl⟩ | ⟨q, e, _⟩
    · exact ⟨Nat.lt_of_lt_of_le (m.lt.2 g hg) f.size, Or.inl hg⟩
    · rw [er] at e
      injection e with e
      subst e
      exact ⟨bn.lt, Or.inr hn⟩
    · rw [ep] at e; cases e
  · rw [er] at e
    injection e with e
    subst e
    exact ⟨⟨fun hq => by have := m.lt.2 _ hq; simp only at this; omega, by have := m.lt.1.size; show w0.heap.size ≤ n; omega⟩, bn⟩
/-- Nothing of its own. -/
theorem SkAt.mkNo (m : IsMem Q w w0 w gm dv pv s) (qs : Q gs) (p0 : w0.heap.size ≤ gs) (f : Fr (fun b => b = gs) w w') (bs : Blk w' gs 86 (x'.cells gl gs th head key)) (er : x'.rd = none) (ep : x'.ps = none) : SkAt Q w0 w' gm gs gl dv pv th head key x' s := by
  refine ⟨(m.turn f (fun g hg => by rw [hg]; exact qs) (fun g hg => by rw [hg]; exact p0)).reQ (fun g hg => ?_), bs, fun q e => (by rw [er] at e; cases e), fun q e => (by rw [ep] at e; cases e)⟩
  rcases hg with hg | ⟨q, e, _⟩ | ⟨q, e, _⟩
  · exact hg
  · rw [er] at e; cases e
  · rw [ep] at e; cases e
def SkPost (Q : Nat → Prop) (w0 w : World) (gm gs gl : Nat) (dv pv : Value) (th head key : Int) (x : SkM) (s : MSt) (F : Nat → Int) (w' : World) : Prop :=
  ∃ n, SkAt Q w0 w' gm gs gl dv pv th head key (skS F th head key x s n).1 (skS F th head key x s n).2 ∧ ∀ b, Q b → b ≠ gs → w'.heap[b]? = w.heap[b]?
end
end Go.Proofs.YtolengkegjipaaaGreat


/- Package seek: a step of a Seek. Conditions: those that each theorem names. -/
namespace Go.Proofs.YtolengkegjipaaaGreat
open Go.ChangeShapes Go.WideShapes Go.ChangeAt Go.RowKit
set_option linter.unusedVariables false
theorem skDone_k {w : World} {gs k : Nat} (hk : k ≤ 4) (c4 : w.cell? ⟨gs, 4, none⟩ = some (nxSk k gs)) : Calls Tryz.prog 13 #[.pointer (some ⟨gs, 0, none⟩)] w fun e w' => e = .returned (.bool (decide (k = 0))) ∧ w = w' := by
  have hc : k = 0 ∨ k = 1 ∨ k = 2 ∨ k = 3 ∨ k = 4 := by omega
  rcases hc with rfl | rfl | rfl | rfl | rfl
  · exact skDone_yes c4
  all_goals exact skDone_no _ c4
section
variable {w : World} {gm gs k : Nat} {P : World → Prop}
set_option maxRecDepth 100000 in
set_option maxHeartbeats 4000000 in
theorem skGo_headPart (c4 : w.cell? ⟨gs, 4, none⟩ = some (skF 56 gs)) (hp : Calls Tryz.prog 56 #[.pointer (some ⟨gs, 0, none⟩), .pointer (some ⟨gm, 0, none⟩)] w fun e w' => (∃ u, e = .returned u) ∧ P w') (hk : k ≤ 4) (hP : ∀ w', P w' → w'.cell? ⟨gs, 4, none⟩ = some (nxSk k gs)) :
    Calls Tryz.prog 10 #[.pointer (some ⟨gs, 0, none⟩), .pointer (some ⟨gm, 0, none⟩)] w fun e w' => e = .returned (.bool (decide (k = 0))) ∧ P w' := by
  have HD := Lib.hid (skDone_no _ c4)
  have HP := Lib.hid hp
  have HD1 := Lib.hid (fun w' h => skDone_k (w := w') hk (hP w' h))
  unfold skF at c4
  obtain ⟨r, hr⟩ : ∃ r, decide (k = 0) = r := ⟨_, rfl⟩
  rw [hr] at HD1 ⊢
  clear hp hP hk hr
  go_enter Tryz.func10, Tryz.ntmps10
  go_wp2_with fail
  refine HD.out.mono ?_
  rintro e w' ⟨rfl, rfl⟩
  go_wp2_with fail
  refine HP.out.mono ?_
  rintro e w1 ⟨⟨u, rfl⟩, hp1⟩
  have PP := Lib.hid hp1
  clear hp1 c4
  go_wp2_with fail
  refine (HD1.out _ PP.out).mono ?_
  rintro e w' ⟨rfl, rfl⟩
  go_wp2_with fail
  go_ret
  exact ⟨rfl, PP.out⟩
set_option maxRecDepth 100000 in
set_option maxHeartbeats 4000000 in
theorem skGo_linkPart (c4 : w.cell? ⟨gs, 4, none⟩ = some (skF 90 gs)) (hp : Calls Tryz.prog 90 #[.pointer (some ⟨gs, 0, none⟩), .pointer (some ⟨gm, 0, none⟩)] w fun e w' => (∃ u, e = .returned u) ∧ P w') (hk : k ≤ 4) (hP : ∀ w', P w' → w'.cell? ⟨gs, 4, none⟩ = some (nxSk k gs)) :
    Calls Tryz.prog 10 #[.pointer (some ⟨gs, 0, none⟩), .pointer (some ⟨gm, 0, none⟩)] w fun e w' => e = .returned (.bool (decide (k = 0))) ∧ P w' := by
  have HD := Lib.hid (skDone_no _ c4)
  have HP := Lib.hid hp
  have HD1 := Lib.hid (fun w' h => skDone_k (w := w') hk (hP w' h))
  unfold skF at c4
  obtain ⟨r, hr⟩ : ∃ r, decide (k = 0) = r := ⟨_, rfl⟩
  rw [hr] at HD1 ⊢
  clear hp hP hk hr
  go_enter Tryz.func10, Tryz.ntmps10
  go_wp2_with fail
  refine HD.out.mono ?_
  rintro e w' ⟨rfl, rfl⟩
  go_wp2_with fail
  refine HP.out.mono ?_
  rintro e w1 ⟨⟨u, rfl⟩, hp1⟩
  have PP := Lib.hid hp1
  clear hp1 c4
  go_wp2_with fail
  refine (HD1.out _ PP.out).mono ?_
  rintro e w' ⟨rfl, rfl⟩
  go_wp2_with fail
  go_ret
  exact ⟨rfl, PP.out⟩
set_option maxRecDepth 100000 in
set_option maxHeartbeats 4000000 in
theorem skGo_pastPart (c4 : w.cell? ⟨gs, 4, none⟩ = some (skF 99 gs)) (hp : Calls Tryz.prog 99 #[.pointer (some ⟨gs, 0, none⟩), .pointer (some ⟨gm, 0, none⟩)] w fun e w' => (∃ u, e = .returned u) ∧ P w') (hk : k ≤ 4) (hP : ∀ w', P w' → w'.cell? ⟨gs, 4, none⟩ = some (nxSk k gs)) :
    Calls Tryz.prog 10 #[.pointer (some ⟨gs, 0, none⟩), .pointer (some ⟨gm, 0, none⟩)] w fun e w' => e = .returned (.bool (decide (k = 0))) ∧ P w' := by
  have HD := Lib.hid (skDone_no _ c4)
  have HP := Lib.hid hp
  have HD1 := Lib.hid (fun w' h => skDone_k (w := w') hk (hP w' h))
  unfold skF at c4
  obtain ⟨r, hr⟩ : ∃ r, decide (k = 0) = r := ⟨_, rfl⟩
  rw [hr] at HD1 ⊢
  clear hp hP hk hr
  go_enter Tryz.func10, Tryz.ntmps10
  go_wp2_with fail
  refine HD.out.mono ?_
  rintro e w' ⟨rfl, rfl⟩
  go_wp2_with fail
  refine HP.out.mono ?_
  rintro e w1 ⟨⟨u, rfl⟩, hp1⟩
  have PP := Lib.hid hp1
  clear hp1 c4
  go_wp2_with fail
  refine (HD1.out _ PP.out).mono ?_
  rintro e w' ⟨rfl, rfl⟩
  go_wp2_with fail
  go_ret
  exact ⟨rfl, PP.out⟩
set_option maxRecDepth 100000 in
set_option maxHeartbeats 4000000 in
theorem skGo_keyPart (c4 : w.cell? ⟨gs, 4, none⟩ = some (skF 100 gs)) (hp : Calls Tryz.prog 100 #[.pointer (some ⟨gs, 0, none⟩), .pointer (some ⟨gm, 0, none⟩)] w fun e w' => (∃ u, e = .returned u) ∧ P w') (hk : k ≤ 4) (hP : ∀ w', P w' → w'.cell? ⟨gs, 4, none⟩ = some (nxSk k gs)) :
    Calls Tryz.prog 10 #[.pointer (some ⟨gs, 0, none⟩), .pointer (some ⟨gm, 0, none⟩)] w fun e w' => e = .returned (.bool (decide (k = 0))) ∧ P w' := by
  have HD := Lib.hid (skDone_no _ c4)
  have HP := Lib.hid hp
  have HD1 := Lib.hid (fun w' h => skDone_k (w := w') hk (hP w' h))
  unfold skF at c4
  obtain ⟨r, hr⟩ : ∃ r, decide (k = 0) = r := ⟨_, rfl⟩
  rw [hr] at HD1 ⊢
  clear hp hP hk hr
  go_enter Tryz.func10, Tryz.ntmps10
  go_wp2_with fail
  refine HD.out.mono ?_
  rintro e w' ⟨rfl, rfl⟩
  go_wp2_with fail
  refine HP.out.mono ?_
  rintro e w1 ⟨⟨u, rfl⟩, hp1⟩
  have PP := Lib.hid hp1
  clear hp1 c4
  go_wp2_with fail
  refine (HD1.out _ PP.out).mono ?_
  rintro e w' ⟨rfl, rfl⟩
  go_wp2_with fail
  go_ret
  exact ⟨rfl, PP.out⟩
theorem skGo_done (c4 : w.cell? ⟨gs, 4, none⟩ = some .nilFunc) :
    Calls Tryz.prog 10 #[.pointer (some ⟨gs, 0, none⟩), .pointer (some ⟨gm, 0, none⟩)] w fun e w' => e = .returned (.bool true) ∧ w = w' := by
  have HD := Lib.hid (skDone_yes c4)
  clear c4
  go_enter Tryz.func10, Tryz.ntmps10
  go_wp2_with fail
  refine HD.out.mono ?_
  rintro e w' ⟨rfl, rfl⟩
  go_wp2_with fail
  go_ret
  exact ⟨rfl, rfl⟩
end
theorem fol_part (F : Nat → Int) (x : SkM) (a v u : Int) (n n' : Nat) : (x.fol F a v u n).part = (x.fol F a v u n').part := by
  unfold SkM.fol
  split <;> rfl
theorem skS_part (F : Nat → Int) (th head key : Int) (x : SkM) (s : MSt) (n n' : Nat) : (skS F th head key x s n).1.part = (skS F th head key x s n').1.part := by
  unfold skS
  split
  · rfl
  · split
    · rfl
    · unfold sk1
      simp only
      repeat' split
      all_goals first | rfl | exact fol_part _ _ _ _ _ _ _
  · split
    · rfl
    · unfold sk2
      simp only
      repeat' split
      all_goals rfl
  · split
    · rfl
    · unfold sk3
      simp only
      repeat' split
      all_goals first | rfl | exact fol_part _ _ _ _ _ _ _
  · unfold sk4
    simp only
    split
    · exact fol_part _ _ _ _ _ _ _
    · rfl
section
variable {Q : Nat → Prop} {w0 w : World} {gm gs gl : Nat} {dv pv : Value} {s : MSt} {F : Nat → Int} {th head key : Int} {x : SkM}
/-- What follow leaves. -/
theorem fol_at (ok : Okay F) (m : IsMem Q w w0 w gm dv pv s) (qs : Q gs) (ql : Q gl) (p0 : w0.heap.size ≤ gs) (nlp : gl ≠ gs) {a v u : Int} (hv : W64 v) (hl : Blk w gl 97 (cellsF F)) (hb : Blk w gs 86 (x.cells gl gs th head key)) :
    Calls Tryz.prog 76 #[.pointer (some ⟨gs, 0, none⟩), .agg #[.int .i64 a, .int .u64 v, .int .i64 u]] w fun e w' => (∃ z, e = .returned z) ∧ Fr (fun b => b = gs) w w' ∧ ∃ n, SkAt Q w0 w' gm gs gl dv pv th head key (x.fol F a v u n) s := by
  refine (follow_ok ok a v u hv hl nlp hb).mono ?_
  rintro e w' ⟨hz, fr, ⟨ht, bs⟩ | ⟨ht, gn, hgn, bn, bs⟩⟩
  · refine ⟨hz, fr, 0, ?_⟩
    have e1 : x.fol F a v u 0 = ⟨0, x.rp, x.pp, a, v, u, 0, 0, 0, x.fnd, none, none⟩ := if_pos ht
    rw [e1]
    exact SkAt.mkNo m qs p0 fr bs rfl rfl
  · refine ⟨hz, fr, gn, ?_⟩
    have e1 : x.fol F a v u gn = ⟨2, some ⟨gn, 0, none⟩, x.pp, a, v, u, nxtN F (toN v), 0, 0, x.fnd, some (gn, lr0), none⟩ := if_neg ht
    rw [e1]
    exact SkAt.mkRd m qs p0 fr hgn bn bs rfl rfl
/-- What begin leaves. -/
theorem beg_at (m : IsMem Q w w0 w gm dv pv s) (qs : Q gs) (p0 : w0.heap.size ≤ gs) (hb : Blk w gs 86 (x.cells gl gs th head key)) :
    Calls Tryz.prog 33 #[.pointer (some ⟨gs, 0, none⟩)] w fun e w' => (∃ z, e = .returned z) ∧ Fr (fun b => b = gs) w w' ∧ ∃ n, SkAt Q w0 w' gm gs gl dv pv th head key (x.beg head n) s := by
  refine (begin_ok hb).mono ?_
  rintro e w' ⟨hz, gn, hgn, bn, bs, fr⟩
  exact ⟨hz, fr, gn, SkAt.mkRd m qs p0 fr hgn bn bs rfl rfl⟩
/-- **A STEP OF A SEEK.** -/
theorem skPart_ok {i : Nat} (h : SkAt Q w0 w gm gs gl dv pv th head key x s) (hc : Calm s) (hi : i ≤ 1000) (fine : Fine i s.dev) (ok : Okay F) (hU : ∀ a, W64 (peekV s a)) (hk : 0 ≤ key ∧ key < 4294967296) (hx : x.Wf) (hl : Blk w gl 97 (cellsF F)) (qs : Q gs) (ql : Q gl) (nlp : gl ≠ gs) (p0 : w0.heap.size ≤ gs) :
    Calls Tryz.prog 10 #[.pointer (some ⟨gs, 0, none⟩), .pointer (some ⟨gm, 0, none⟩)] w fun e w' => e = .returned (.bool (decide ((skS F th head key x s 0).1.part = 0))) ∧ SkPost Q w0 w gm gs gl dv pv th head key x s F w' := by
  have hm : IsMem Q w w0 w gm dv pv s := h.mem.reQ (fun b hb => Or.inl hb)
  have hp := hx.part
  have hP4 : (skS F th head key x s 0).1.part ≤ 4 := by
    unfold skS sk1 sk2 sk3 sk4 SkM.fol SkM.beg
    repeat' split
    all_goals (simp only; omega)
  have hPc : ∀ w', SkPost Q w0 w gm gs gl dv pv th head key x s F w' → w'.cell? ⟨gs, 4, none⟩ = some (nxSk (skS F th head key x s 0).1.part gs) := fun w' ⟨n, h1, _⟩ => by
    rw [skS_part F th head key x s 0 n]
    exact h1.blk.cell 4
  have hcs : x.part = 0 ∨ x.part = 1 ∨ x.part = 2 ∨ x.part = 3 ∨ x.part = 4 := by omega
  rcases hcs with e | e | e | e | e
  · have e4 : x.cells gl gs th head key = (⟨0, x.rp, x.pp, x.fat, x.fwd, x.fwh, x.hat, x.hwd, x.hwh, x.fnd, x.rd, x.ps⟩ : SkM).cells gl gs th head key := by unfold SkM.cells; rw [e]
    have eS : skS F th head key x s 0 = (x, s) := by unfold skS; rw [e]; rfl
    have c4 : w.cell? ⟨gs, 4, none⟩ = some .nilFunc := by have hb := h.blk; rw [e4] at hb; exact hb.cell 4
    refine (skGo_done c4).mono ?_
    rintro e' w' ⟨rfl, rfl⟩
    refine ⟨by rw [eS, e]; rfl, 0, ?_, fun _ _ _ => rfl⟩
    rw [eS]
    exact h
  · obtain ⟨g, y, e1, e2, hy, hd⟩ := hx.rd (Or.inl e)
    have hwf := lrS_wf (t := th) (a := x.hat) (s := s) hy hU
    obtain ⟨part, rp, pp, fat, fwd, fwh, hat, hwd, hwh, fnd, rd, ps⟩ := x
    simp only at e e1 e2 hwf
    subst e e1 e2
    have hps : ps = none := hx.nps (show (1 : Nat) ≠ 3 by decide)
    subst hps
    obtain ⟨⟨nq, pg⟩, hbr⟩ := h.rd (g, y) rfl
    simp only at nq pg hbr
    have ngs : g ≠ gs := fun hh => nq (hh ▸ qs)
    refine skGo_headPart (h.blk.cell 4) ?_ hP4 hPc
    have hgo := goesOn_ok (s := s) h.mem hc hi fine hx.hat hy hbr h.blk (Or.inr (Or.inl ⟨(g, y), rfl, rfl⟩)) (Or.inl qs) pg p0 ngs
    have eS : ∀ n, skS F th head key ⟨1, some ⟨g, 0, none⟩, pp, fat, fwd, fwh, hat, hwd, hwh, fnd, some (g, y), none⟩ s n = sk1 F head ⟨1, some ⟨g, 0, none⟩, pp, fat, fwd, fwh, hat, hwd, hwh, fnd, some (g, y), none⟩ g (lrS th hat y s) n := fun n => rfl
    unfold SkPost
    simp only [eS]
    clear eS hPc hP4
    generalize lrS th hat y s = p at *
    obtain ⟨⟨pt, wd, wh, dn⟩, s'⟩ := p
    simp only at hgo hwf
    have keepL : ∀ W W' : World, (∀ b, (Q b ∨ SkM.ownB ⟨1, some ⟨g, 0, none⟩, pp, fat, fwd, fwh, hat, hwd, hwh, fnd, some (g, y), none⟩ b) → b ≠ g → b ≠ gs → W.heap[b]? = w.heap[b]?) → Ext W W' → (∀ b, Q b → b < W.heap.size) → Blk W' gl 97 (cellsF F) := fun W W' k x2 hlt => ((x2.block gl (hlt gl ql)).trans (k gl (Or.inl ql) (fun hh => nq (hh ▸ ql)) nlp)).trans hl
    refine headPart_any (gl := gl) (th := th) (head := head) (key := key) (nx := nxSk 1 gs) (rp := some ⟨g, 0, none⟩) (pp := pp) (fat := fat) (fwd := fwd) (fwh := fwh) (hat := hat) (hwd := wd) (hwh := wh) (fnd := fnd) (P := fun w' => ∃ n, SkAt Q w0 w' gm gs gl dv pv th head key (sk1 F head ⟨1, some ⟨g, 0, none⟩, pp, fat, fwd, fwh, hat, hwd, hwh, fnd, some (g, y), none⟩ g (⟨pt, wd, wh, dn⟩, s') n).1 (sk1 F head ⟨1, some ⟨g, 0, none⟩, pp, fat, fwd, fwh, hat, hwd, hwh, fnd, some (g, y), none⟩ g (⟨pt, wd, wh, dn⟩, s') n).2 ∧ ∀ b, Q b → b ≠ gs → w'.heap[b]? = w.heap[b]?) hgo ?_ ?_ hwf.wd ?_ ?_
    · rintro rfl W ⟨m1, r1, b1, k1⟩
      exact ⟨0, ⟨m1.reQ (fun b hb => by
        rcases hb with hb | ⟨q, eq, rfl⟩ | ⟨q, eq, _⟩
        · exact Or.inl hb
        · injection eq with eq; subst eq; exact Or.inr (Or.inl ⟨_, rfl, rfl⟩)
        · cases eq), b1, fun q eq => (by injection eq with eq; subst eq; exact ⟨⟨nq, pg⟩, r1⟩), fun q eq => (by cases eq)⟩, fun b hb hn => k1 b (Or.inl hb) (fun hh => nq (hh ▸ hb)) hn⟩
    · rintro rfl W ⟨m1, r1, b1, k1⟩
      exact b1
    · rintro rfl htk W W' ⟨m1, r1, b1, k1⟩ x2
      have m2 : IsMem Q W' w0 W' gm dv pv s' := ((m1.reQ (Q' := Q) (fun b hb => Or.inl hb)).ext x2).here
      refine (beg_at (x := ⟨1, some ⟨g, 0, none⟩, pp, fat, fwd, fwh, hat, wd, wh, fnd, some (g, y), none⟩) m2 qs p0 (b1.ext x2)).mono ?_
      rintro e' w' ⟨hz, fr, n, ha⟩
      refine ⟨hz, n, ?_, fun b hb hn => ((fr.block b (m2.lt.2 b hb) hn).trans (x2.block b (m1.lt.2 b (Or.inl hb)))).trans (k1 b (Or.inl hb) (fun hh => nq (hh ▸ hb)) hn)⟩
      have e5 : sk1 F head ⟨1, some ⟨g, 0, none⟩, pp, fat, fwd, fwh, hat, hwd, hwh, fnd, some (g, y), none⟩ g (⟨pt, wd, wh, true⟩, s') n = (SkM.beg ⟨1, some ⟨g, 0, none⟩, pp, fat, fwd, fwh, hat, wd, wh, fnd, some (g, y), none⟩ head n, s') := by
        unfold sk1
        simp only
        rw [if_neg (by decide), if_pos htk]
        rfl
      rw [e5]
      exact ha
    · rintro rfl htk W W' ⟨m1, r1, b1, k1⟩ x2
      have m2 : IsMem Q W' w0 W' gm dv pv s' := ((m1.reQ (Q' := Q) (fun b hb => Or.inl hb)).ext x2).here
      refine (fol_at (x := ⟨1, some ⟨g, 0, none⟩, pp, fat, fwd, fwh, hat, wd, wh, fnd, some (g, y), none⟩) ok m2 qs ql p0 nlp hwf.wd (keepL W W' k1 x2 (fun b hb => m1.lt.2 b (Or.inl hb))) (b1.ext x2)).mono ?_
      rintro e' w' ⟨hz, fr, n, ha⟩
      refine ⟨hz, n, ?_, fun b hb hn => ((fr.block b (m2.lt.2 b hb) hn).trans (x2.block b (m1.lt.2 b (Or.inl hb)))).trans (k1 b (Or.inl hb) (fun hh => nq (hh ▸ hb)) hn)⟩
      have e5 : sk1 F head ⟨1, some ⟨g, 0, none⟩, pp, fat, fwd, fwh, hat, hwd, hwh, fnd, some (g, y), none⟩ g (⟨pt, wd, wh, true⟩, s') n = (SkM.fol F ⟨1, some ⟨g, 0, none⟩, pp, fat, fwd, fwh, hat, wd, wh, fnd, some (g, y), none⟩ hat wd wh n, s') := by
        unfold sk1
        simp only
        rw [if_neg (by decide), if_neg (by rw [htk]; decide)]
        rfl
      rw [e5]
      exact ha
  · obtain ⟨g, y, e1, e2, hy, hd⟩ := hx.rd (Or.inr e)
    have hwf := lrS_wf (t := th) (a := x.hat) (s := s) hy hU
    obtain ⟨part, rp, pp, fat, fwd, fwh, hat, hwd, hwh, fnd, rd, ps⟩ := x
    simp only at e e1 e2 hwf
    subst e e1 e2
    have hps : ps = none := hx.nps (show (2 : Nat) ≠ 3 by decide)
    subst hps
    obtain ⟨⟨nq, pg⟩, hbr⟩ := h.rd (g, y) rfl
    simp only at nq pg hbr
    have ngs : g ≠ gs := fun hh => nq (hh ▸ qs)
    refine skGo_linkPart (h.blk.cell 4) ?_ hP4 hPc
    have hgo := goesOn_ok (s := s) h.mem hc hi fine hx.hat hy hbr h.blk (Or.inr (Or.inl ⟨(g, y), rfl, rfl⟩)) (Or.inl qs) pg p0 ngs
    have eS : ∀ n, skS F th head key ⟨2, some ⟨g, 0, none⟩, pp, fat, fwd, fwh, hat, hwd, hwh, fnd, some (g, y), none⟩ s n = sk2 ⟨2, some ⟨g, 0, none⟩, pp, fat, fwd, fwh, hat, hwd, hwh, fnd, some (g, y), none⟩ g (lrS th hat y s) n := fun n => rfl
    unfold SkPost
    simp only [eS]
    clear eS hPc hP4
    generalize lrS th hat y s = p at *
    obtain ⟨⟨pt, wd, wh, dn⟩, s'⟩ := p
    simp only at hgo hwf
    refine linkPart_any (gl := gl) (th := th) (head := head) (key := key) (nx := nxSk 2 gs) (rp := some ⟨g, 0, none⟩) (pp := pp) (fat := fat) (fwd := fwd) (fwh := fwh) (hat := hat) (hwd := wd) (hwh := wh) (fnd := fnd) (P := fun w' => ∃ n, SkAt Q w0 w' gm gs gl dv pv th head key (sk2 ⟨2, some ⟨g, 0, none⟩, pp, fat, fwd, fwh, hat, hwd, hwh, fnd, some (g, y), none⟩ g (⟨pt, wd, wh, dn⟩, s') n).1 (sk2 ⟨2, some ⟨g, 0, none⟩, pp, fat, fwd, fwh, hat, hwd, hwh, fnd, some (g, y), none⟩ g (⟨pt, wd, wh, dn⟩, s') n).2 ∧ ∀ b, Q b → b ≠ gs → w'.heap[b]? = w.heap[b]?) hgo ?_ ?_ hwf.wd hx.fwd ?_ ?_
    · rintro rfl W ⟨m1, r1, b1, k1⟩
      exact ⟨0, ⟨m1.reQ (fun b hb => by
        rcases hb with hb | ⟨q, eq, rfl⟩ | ⟨q, eq, _⟩
        · exact Or.inl hb
        · injection eq with eq; subst eq; exact Or.inr (Or.inl ⟨_, rfl, rfl⟩)
        · cases eq), b1, fun q eq => (by injection eq with eq; subst eq; exact ⟨⟨nq, pg⟩, r1⟩), fun q eq => (by cases eq)⟩, fun b hb hn => k1 b (Or.inl hb) (fun hh => nq (hh ▸ hb)) hn⟩
    · rintro rfl W ⟨m1, r1, b1, k1⟩
      exact b1
    · rintro rfl htk W w' gn ⟨m1, r1, b1, k1⟩ hgn bn bs fr
      have m2 : IsMem Q W w0 W gm dv pv s' := m1.reQ (Q' := Q) (fun b hb => Or.inl hb)
      have e5 : sk2 ⟨2, some ⟨g, 0, none⟩, pp, fat, fwd, fwh, hat, hwd, hwh, fnd, some (g, y), none⟩ g (⟨pt, wd, wh, true⟩, s') gn = (⟨3, some ⟨g, 0, none⟩, some ⟨gn, 0, none⟩, fat, fwd, fwh, hat, wd, wh, fnd, none, some (gn, ls0)⟩, s') := by
        unfold sk2
        simp only
        rw [if_neg (by decide), if_pos htk]
      refine ⟨gn, ?_, fun b hb hn => (fr.block b (m2.lt.2 b hb) hn).trans (k1 b (Or.inl hb) (fun hh => nq (hh ▸ hb)) hn)⟩
      rw [e5]
      refine ⟨m2.holdT fr (fun g hg => by rw [hg]; exact qs) (fun g hg => by rw [hg]; exact p0) (fun b hb => ?_), bs, fun q eq => (by cases eq), fun q eq => ?_⟩
      · rcases hb with hb | ⟨q, eq, _⟩ | ⟨q, eq, rfl⟩
        · exact ⟨Nat.lt_of_lt_of_le (m2.lt.2 b hb) fr.size, Or.inl hb⟩
        · cases eq
        · injection eq with eq
          subst eq
          exact ⟨bn.lt, Or.inr hgn⟩
      · injection eq with eq
        subst eq
        exact ⟨⟨fun hq => by have := m2.lt.2 _ hq; simp only at this; omega, by have := m2.lt.1.size; show w0.heap.size ≤ gn; omega⟩, bn⟩
    · rintro rfl htk W w' ⟨m1, r1, b1, k1⟩ bs fr
      have m2 : IsMem Q W w0 W gm dv pv s' := m1.reQ (Q' := Q) (fun b hb => Or.inl hb)
      have e5 : sk2 ⟨2, some ⟨g, 0, none⟩, pp, fat, fwd, fwh, hat, hwd, hwh, fnd, some (g, y), none⟩ g (⟨pt, wd, wh, true⟩, s') 0 = (⟨4, some ⟨g, 0, none⟩, pp, fat, fwd, fwh, hat, wd, wh, fnd, none, none⟩, s') := by
        unfold sk2
        simp only
        rw [if_neg (by decide), if_neg (by rw [htk]; decide)]
      refine ⟨0, ?_, fun b hb hn => (fr.block b (m2.lt.2 b hb) hn).trans (k1 b (Or.inl hb) (fun hh => nq (hh ▸ hb)) hn)⟩
      rw [e5]
      exact SkAt.mkNo m2 qs p0 fr bs rfl rfl
  · obtain ⟨g, y, e1, e2, hy, hd⟩ := hx.ps e
    obtain ⟨part, rp, pp, fat, fwd, fwh, hat, hwd, hwh, fnd, rd, ps⟩ := x
    simp only at e e1 e2
    subst e e1 e2
    have hrd : rd = none := hx.nrd (fun hh => hh.elim (fun (e : (3 : Nat) = 1) => absurd e (by decide)) (fun (e : (3 : Nat) = 2) => absurd e (by decide)))
    subst hrd
    obtain ⟨⟨nq, pg⟩, hbr⟩ := h.ps (g, y) rfl
    simp only at nq pg hbr
    have ngs : g ≠ gs := fun hh => nq (hh ▸ qs)
    refine skGo_pastPart (h.blk.cell 4) ?_ hP4 hPc
    have hgo := lsStep_ok (s := s) h.mem hc hi fine hx.fat hy (soN_rng (bhN hwd)) hbr (Or.inr (Or.inr ⟨(g, y), rfl, rfl⟩)) pg
    unfold StepPost at hgo
    have eS : ∀ n, skS F th head key ⟨3, rp, some ⟨g, 0, none⟩, fat, fwd, fwh, hat, hwd, hwh, fnd, none, some (g, y)⟩ s n = sk3 F head ⟨3, rp, some ⟨g, 0, none⟩, fat, fwd, fwh, hat, hwd, hwh, fnd, none, some (g, y)⟩ g (lsS th fat (soN (bhN hwd)) (clN fwd) y s) n := fun n => rfl
    unfold SkPost
    simp only [eS]
    clear eS hPc hP4
    generalize lsS th fat (soN (bhN hwd)) (clN fwd) y s = p at *
    obtain ⟨⟨pt, wh, dn, put, wr⟩, s'⟩ := p
    simp only at hgo
    have kp : ∀ W : World, (∀ b, (Q b ∨ SkM.ownB ⟨3, rp, some ⟨g, 0, none⟩, fat, fwd, fwh, hat, hwd, hwh, fnd, none, some (g, y)⟩ b) → b ≠ g → W.heap[b]? = w.heap[b]?) → Blk W gs 86 (SkM.cells ⟨3, rp, some ⟨g, 0, none⟩, fat, fwd, fwh, hat, hwd, hwh, fnd, none, some (g, y)⟩ gl gs th head key) ∧ Blk W gl 97 (cellsF F) := fun W k => ⟨(k gs (Or.inl qs) ngs.symm).trans h.blk, (k gl (Or.inl ql) (fun hh => nq (hh ▸ ql))).trans hl⟩
    refine pastPart_any (P := fun w' => ∃ n, SkAt Q w0 w' gm gs gl dv pv th head key (sk3 F head ⟨3, rp, some ⟨g, 0, none⟩, fat, fwd, fwh, hat, hwd, hwh, fnd, none, some (g, y)⟩ g (⟨pt, wh, dn, put, wr⟩, s') n).1 (sk3 F head ⟨3, rp, some ⟨g, 0, none⟩, fat, fwd, fwh, hat, hwd, hwh, fnd, none, some (g, y)⟩ g (⟨pt, wh, dn, put, wr⟩, s') n).2 ∧ ∀ b, Q b → b ≠ gs → w'.heap[b]? = w.heap[b]?) (y := ⟨pt, wh, dn, put, wr⟩) (h.blk.cell 6) hgo ?_ (fun W hg => (kp W hg.2.2).1) (fun W hg => hg.2.1) hx.hwd ?_ ?_
    · rintro rfl W ⟨m1, r1, k1⟩
      exact ⟨0, ⟨m1.reQ (fun b hb => by
        rcases hb with hb | ⟨q, eq, _⟩ | ⟨q, eq, rfl⟩
        · exact Or.inl hb
        · cases eq
        · injection eq with eq; subst eq; exact Or.inr (Or.inr ⟨_, rfl, rfl⟩)), (kp W k1).1, fun q eq => (by cases eq), fun q eq => (by injection eq with eq; subst eq; exact ⟨⟨nq, pg⟩, r1⟩)⟩, fun b hb hn => k1 b (Or.inl hb) (fun hh => nq (hh ▸ hb))⟩
    · rintro rfl hput W W' ⟨m1, r1, k1⟩ x2
      have m2 : IsMem Q W' w0 W' gm dv pv s' := ((m1.reQ (Q' := Q) (fun b hb => Or.inl hb)).ext x2).here
      refine (beg_at (x := ⟨3, rp, some ⟨g, 0, none⟩, fat, fwd, fwh, hat, hwd, hwh, fnd, none, some (g, y)⟩) m2 qs p0 ((kp W k1).1.ext x2)).mono ?_
      rintro e' w' ⟨hz, fr, n, ha⟩
      refine ⟨hz, n, ?_, fun b hb hn => ((fr.block b (m2.lt.2 b hb) hn).trans (x2.block b (m1.lt.2 b (Or.inl hb)))).trans (k1 b (Or.inl hb) (fun hh => nq (hh ▸ hb)))⟩
      have e5 : sk3 F head ⟨3, rp, some ⟨g, 0, none⟩, fat, fwd, fwh, hat, hwd, hwh, fnd, none, some (g, y)⟩ g (⟨pt, wh, true, put, wr⟩, s') n = (SkM.beg ⟨3, rp, some ⟨g, 0, none⟩, fat, fwd, fwh, hat, hwd, hwh, fnd, none, some (g, y)⟩ head n, s') := by
        unfold sk3
        simp only
        rw [if_neg (by decide), if_pos hput]
      rw [e5]
      exact ha
    · rintro rfl hput W W' ⟨m1, r1, k1⟩ x2
      have m2 : IsMem Q W' w0 W' gm dv pv s' := ((m1.reQ (Q' := Q) (fun b hb => Or.inl hb)).ext x2).here
      refine (fol_at (x := ⟨3, rp, some ⟨g, 0, none⟩, fat, fwd, fwh, hat, hwd, hwh, fnd, none, some (g, y)⟩) ok m2 qs ql p0 nlp (bhN_rng hwd) ((kp W k1).2.ext x2) ((kp W k1).1.ext x2)).mono ?_
      rintro e' w' ⟨hz, fr, n, ha⟩
      have e5 : sk3 F head ⟨3, rp, some ⟨g, 0, none⟩, fat, fwd, fwh, hat, hwd, hwh, fnd, none, some (g, y)⟩ g (⟨pt, wh, true, put, wr⟩, s') n = (SkM.fol F ⟨3, rp, some ⟨g, 0, none⟩, fat, fwd, fwh, hat, hwd, hwh, fnd, none, some (g, y)⟩ fat (bhN hwd) wh n, s') := by
        unfold sk3
        simp only
        rw [if_neg (by decide), if_neg (by rw [show put = true from hput]; decide)]
      refine ⟨hz, ⟨n, ?_, fun b hb hn => ((fr.block b (m2.lt.2 b hb) hn).trans (x2.block b (m1.lt.2 b (Or.inl hb)))).trans (k1 b (Or.inl hb) (fun hh => nq (hh ▸ hb)))⟩, ?_⟩
      · rw [e5]
        exact ha
      · have hbl := ha.blk
        unfold SkM.fol at hbl
        split at hbl
        · exact ⟨hbl.cell 7, hbl.cell 6⟩
        · exact ⟨hbl.cell 7, hbl.cell 6⟩
  · obtain ⟨part, rp, pp, fat, fwd, fwh, hat, hwd, hwh, fnd, rd, ps⟩ := x
    simp only at e
    subst e
    have hrd : rd = none := hx.nrd (fun hh => hh.elim (fun (e : (4 : Nat) = 1) => absurd e (by decide)) (fun (e : (4 : Nat) = 2) => absurd e (by decide)))
    have hps : ps = none := hx.nps (show (4 : Nat) ≠ 3 by decide)
    subst hrd hps
    refine skGo_keyPart (h.blk.cell 4) ?_ hP4 hPc
    have eS : ∀ n, skS F th head key ⟨4, rp, pp, fat, fwd, fwh, hat, hwd, hwh, fnd, none, none⟩ s n = sk4 F th key ⟨4, rp, pp, fat, fwd, fwh, hat, hwd, hwh, fnd, none, none⟩ s n := fun n => rfl
    unfold SkPost
    simp only [eS]
    clear eS hPc hP4
    refine keyPart_any (P := fun w' => ∃ n, SkAt Q w0 w' gm gs gl dv pv th head key (sk4 F th key ⟨4, rp, pp, fat, fwd, fwh, hat, hwd, hwh, fnd, none, none⟩ s n).1 (sk4 F th key ⟨4, rp, pp, fat, fwd, fwh, hat, hwd, hwh, fnd, none, none⟩ s n).2 ∧ ∀ b, Q b → b ≠ gs → w'.heap[b]? = w.heap[b]?) hm hc ok hl h.blk qs ql hx.fwd hk hU ?_ ?_
    · intro hlt W m1
      have b1 := (m1.keptQ gs qs).trans h.blk
      refine (fol_at (x := ⟨4, rp, pp, fat, fwd, fwh, hat, hwd, hwh, fnd, none, none⟩) ok m1.here qs ql p0 nlp hx.hwd ((m1.keptQ gl ql).trans hl) b1).mono ?_
      rintro e' w' ⟨hz, fr, n, ha⟩
      refine ⟨hz, n, ?_, fun b hb hn => (fr.block b (m1.lt.2 b hb) hn).trans (m1.keptQ b hb)⟩
      have e5 : sk4 F th key ⟨4, rp, pp, fat, fwd, fwh, hat, hwd, hwh, fnd, none, none⟩ s n = (SkM.fol F ⟨4, rp, pp, fat, fwd, fwh, hat, hwd, hwh, fnd, none, none⟩ hat hwd hwh n, s.load th (keyN F (toN fwd))) := by
        unfold sk4
        simp only
        rw [if_pos hlt]
      rw [e5]
      exact ha
    · intro hlt W m1
      have b1 : Blk W gs 86 (SkM.cells ⟨4, rp, pp, fat, fwd, fwh, hat, hwd, hwh, fnd, none, none⟩ gl gs th head key) := (m1.keptQ gs qs).trans h.blk
      have fr : Fr (fun b => b = gs) W ((W.setCell ⟨gs, 13, none⟩ (.bool (peekV s (keyN F (toN fwd)) % 4294967296 == key))).setCell ⟨gs, 4, none⟩ .nilFunc) := ((Fr.refl (fun b => b = gs) W).setCell (p := ⟨gs, 13, none⟩) (Or.inl rfl) _).setCell (p := ⟨gs, 4, none⟩) (Or.inl rfl) _
      have e5 : sk4 F th key ⟨4, rp, pp, fat, fwd, fwh, hat, hwd, hwh, fnd, none, none⟩ s 0 = (⟨0, rp, pp, fat, fwd, fwh, hat, hwd, hwh, peekV s (keyN F (toN fwd)) % 4294967296 == key, none, none⟩, s.load th (keyN F (toN fwd))) := by
        unfold sk4
        simp only
        rw [if_neg hlt]
      refine ⟨0, ?_, fun b hb hn => (fr.block b (m1.lt.2 b hb) hn).trans (m1.keptQ b hb)⟩
      rw [e5]
      exact SkAt.mkNo m1.here qs p0 fr ((b1.set 13 _).set 4 _) rfl rfl
end
end Go.Proofs.YtolengkegjipaaaGreat

