/- The document's Seek: its line 4, by what its callees leave. Conditions: those that each theorem names. -/
import Derived.Test.YtbicloceaddinaaGreatKSkC
namespace Go.Proofs.YtbicloceaddinaaGreat
open Go.ChangeShapes Go.WideShapes Go.ChangeAt Go.RowKit
set_option linter.unusedVariables false
section
variable {w w' : World} {gq g gr gp : Nat} {t s l b : Nat} {th head key line : Int} {rp sp : Option Addr} {fnd : Bool} {prev word came curr link whn : Int} {P : World → Prop} {ln got wd wh av : Int} {B : Nat} {R : RefB} {rv : Value} {st : MSt}
set_option maxRecDepth 100000 in
set_option maxHeartbeats 4000000 in
theorem rsk4_any (h : IsRMem B w g R rv st) (sd : Sound st.dev) (hc : Calm st) (cg : CfgN t s l b) (ok : Okay (layF t s l b)) (hb : Blk w gq 83 (rsC t s l b th head key 4 (some ⟨gr, 0, none⟩) sp fnd prev word came curr link whn)) (ho : ¬ rfoot g R rv gq) (hrd : Blk w gr 157 (RLr.cells ⟨ln, got, wd, wh⟩ th av)) (ho2 : ¬ rfoot g R rv gr) (hne : gr ≠ gq) (hk : 0 ≤ key ∧ key < 4294967296) (hU : ∀ a, W64 (peekV st a)) (hlow : (peekV st (keyN (layF t s l b) curr) % 4294967296) < key → ∀ W, RG B w W g R rv gq 83 (rsC t s l b th head key 4 (some ⟨gr, 0, none⟩) sp fnd (nxtN (layF t s l b) curr) word came curr link whn) (st.load th (keyN (layF t s l b) curr)) → Calls Tryz.prog 101 #[.pointer (some ⟨gq, 0, none⟩), .int .u64 link, .int .i64 wh] W fun e w' => (∃ u, e = .returned u) ∧ P w') (hend : ¬ (peekV st (keyN (layF t s l b) curr) % 4294967296) < key → ∀ W, RG B w W g R rv gq 83 (rsC t s l b th head key 0 (some ⟨gr, 0, none⟩) sp ((peekV st (keyN (layF t s l b) curr) % 4294967296) == key) prev word came curr link (if ((peekV st (keyN (layF t s l b) curr) % 4294967296) == key) = true then wh else came)) (st.load th (keyN (layF t s l b) curr)) → P W) :
    Calls Tryz.prog 30 #[.pointer (some ⟨gq, 0, none⟩), .pointer (some ⟨g, 0, none⟩)] w fun e w' => (∃ u, e = .returned u) ∧ P w' := by
  have har := keyN_rng ok curr
  have hv := hU (keyN (layF t s l b) curr)
  have M0 := Lib.hid (RG.of h hb ho)
  have HA := Lib.hid (fun W => rKeyAt_ok cg curr W)
  have HN := Lib.hid (fun W => rNext_ok cg curr W)
  have HL : Hid (∀ W, RG B w W g R rv gq 83 (rsC t s l b th head key 4 (some ⟨gr, 0, none⟩) sp fnd prev word came curr link whn) st → Calls Tryz.prog 50 #[.pointer (some ⟨g, 0, none⟩), .int .i64 1, .int .i64 th, .int .i64 (keyN (layF t s l b) curr), .int .u64 0, .int .u64 0] W fun e w' => e = .returned (accV (st.load th (keyN (layF t s l b) curr)).last) ∧ RG B w w' g R rv gq 83 (rsC t s l b th head key 4 (some ⟨gr, 0, none⟩) sp fnd prev word came curr link whn) (st.load th (keyN (layF t s l b) curr))) := Lib.hid (fun W m => (refLoad7v m.ref sd hc th _ 0 0 har.1 har.2).mono (by rintro e w' ⟨rfl, r1, f1⟩; exact ⟨rfl, m.to r1 f1⟩))
  obtain ⟨a1, a2, a3, a4, a5, hacc⟩ := load_tells st th (keyN (layF t s l b) curr)
  rw [hacc] at HL
  have hf3 := fun W => fldA3 a1 a2 a3 (peekV st (keyN (layF t s l b) curr)) a4 a5 W
  have HLow := Lib.hid hlow
  have HEnd := Lib.hid hend
  have HRd : Hid (∀ W cs s', RG B w W g R rv gq 83 cs s' → Blk W gr 157 (RLr.cells ⟨ln, got, wd, wh⟩ th av)) := Lib.hid (fun W cs s' m => hrd.fr m.fr (fun hh => hh.elim ho2 hne))
  have HP : Hid (∀ W cs s', (cs[0]? = some (.int .i64 t) ∧ cs[1]? = some (.int .i64 s) ∧ cs[2]? = some (.int .i64 l) ∧ cs[3]? = some (.int .i64 b)) → cs[4]? = some (.int .i64 th) → cs[14]? = some (.int .i64 curr) → RG B w W g R rv gq 83 cs s' → (W.cell? ⟨gq, 0, none⟩ = some (.int .i64 t) ∧ W.cell? ⟨gq, 1, none⟩ = some (.int .i64 s) ∧ W.cell? ⟨gq, 2, none⟩ = some (.int .i64 l) ∧ W.cell? ⟨gq, 3, none⟩ = some (.int .i64 b)) ∧ W.cell? ⟨gq, 4, none⟩ = some (.int .i64 th) ∧ W.cell? ⟨gq, 14, none⟩ = some (.int .i64 curr)) := Lib.hid (fun W cs s' h0 h4 h5 m => ⟨⟨(m.blk.cell 0).trans h0.1, (m.blk.cell 1).trans h0.2.1, (m.blk.cell 2).trans h0.2.2.1, (m.blk.cell 3).trans h0.2.2.2⟩, (m.blk.cell 4).trans h4, (m.blk.cell 14).trans h5⟩)
  have c0 : w.cell? ⟨gq, 0, none⟩ = some (.int .i64 t) := hb.cell 0
  have c1 : w.cell? ⟨gq, 1, none⟩ = some (.int .i64 s) := hb.cell 1
  have c2 : w.cell? ⟨gq, 2, none⟩ = some (.int .i64 l) := hb.cell 2
  have c3 : w.cell? ⟨gq, 3, none⟩ = some (.int .i64 b) := hb.cell 3
  have c4 : w.cell? ⟨gq, 4, none⟩ = some (.int .i64 th) := hb.cell 4
  have c7 : w.cell? ⟨gq, 7, none⟩ = some (.int .i64 4) := hb.cell 7
  have c14 : w.cell? ⟨gq, 14, none⟩ = some (.int .i64 curr) := hb.cell 14
  have M := Lib.hid (M0.out.ext ((Ext.refl w).drew))
  clear h hb sd hc har hU hacc hlow hend hrd ho2 ok cg M0
  generalize (st.load th (keyN (layF t s l b) curr)) = st1 at *
  generalize nxtN (layF t s l b) curr = na at *
  generalize (keyN (layF t s l b) curr) = ka at *
  generalize peekV st ka = v at *
  obtain ⟨k, hkv⟩ : ∃ k, v % 4294967296 = k := ⟨_, rfl⟩
  have k0 : 0 ≤ k ∧ k < 4294967296 := by omega
  have wm : v.tmod 4294967296 = k := by rw [Int.tmod_eq_emod_of_nonneg hv.1]; exact hkv
  have wk : IntKind.u64.wrap k = k := u64w _ (by omega) (by omega)
  have wk2 : IntKind.u32.wrap k = k := by unfold IntKind.wrap; simp [IntKind.signed, IntKind.bits]; omega
  rw [hkv] at HLow HEnd
  clear hkv hv k0
  go_enter Tryz.func30, Tryz.ntmps30
  go_wp2_with fail
  go_region_held3 (fun W => (W.cell? ⟨gq, 0, none⟩ = some (.int .i64 t) ∧ W.cell? ⟨gq, 1, none⟩ = some (.int .i64 s) ∧ W.cell? ⟨gq, 2, none⟩ = some (.int .i64 l) ∧ W.cell? ⟨gq, 3, none⟩ = some (.int .i64 b)) ∧ W.cell? ⟨gq, 4, none⟩ = some (.int .i64 th) ∧ W.cell? ⟨gq, 14, none⟩ = some (.int .i64 curr)) (first | exact HP.out _ _ _ ⟨rfl, rfl, rfl, rfl⟩ rfl rfl M.out | go_keep) (first
    | (go_at_call 104; refine (HA.out _).mono ?_; rintro e w1 ⟨rfl, x1⟩; replace M := Lib.hid (M.out.ext x1); clear x1)
    | (go_at_call 50; refine (HL.out _ M.out).mono ?_; rintro e w1 ⟨rfl, m1⟩; replace M := Lib.hid m1; clear m1))
  all_goals
    clear c0 c1 c2 c3 c4 c7 c14 HL HA hf3
    have c6 : w1.cell? ⟨gq, 6, none⟩ = some (.int .u32 key) := M.out.blk.cell 6
    by_cases hlt : k < key
    · have t1 : decide (k < key) = true := by simpa using hlt
      have HE := Lib.hid (HLow.out hlt)
      clear HEnd HLow hlt
      have c0 : w1.cell? ⟨gq, 0, none⟩ = some (.int .i64 t) := M.out.blk.cell 0
      have c1 : w1.cell? ⟨gq, 1, none⟩ = some (.int .i64 s) := M.out.blk.cell 1
      have c2 : w1.cell? ⟨gq, 2, none⟩ = some (.int .i64 l) := M.out.blk.cell 2
      have c3 : w1.cell? ⟨gq, 3, none⟩ = some (.int .i64 b) := M.out.blk.cell 3
      have c4 : w1.cell? ⟨gq, 4, none⟩ = some (.int .i64 th) := M.out.blk.cell 4
      have c14 : w1.cell? ⟨gq, 14, none⟩ = some (.int .i64 curr) := M.out.blk.cell 14
      replace M := Lib.hid (M.out.ext ((Ext.refl w1).drew))
      go_wp2_with fail
      go_region_held3 (fun W => (W.cell? ⟨gq, 0, none⟩ = some (.int .i64 t) ∧ W.cell? ⟨gq, 1, none⟩ = some (.int .i64 s) ∧ W.cell? ⟨gq, 2, none⟩ = some (.int .i64 l) ∧ W.cell? ⟨gq, 3, none⟩ = some (.int .i64 b)) ∧ W.cell? ⟨gq, 4, none⟩ = some (.int .i64 th) ∧ W.cell? ⟨gq, 14, none⟩ = some (.int .i64 curr)) (first | exact HP.out _ _ _ ⟨rfl, rfl, rfl, rfl⟩ rfl rfl M.out | exact HP.out _ _ _ ⟨rfl, rfl, rfl, rfl⟩ rfl rfl M2.out | go_keep) (first
        | (go_at_call 41; refine (HN.out _).mono ?_; rintro e w2 ⟨rfl, x2⟩; replace M := Lib.hid (M.out.ext x2); have c11 : w2.cell? ⟨gq, 11, none⟩ = some (.int .i64 prev) := M.out.blk.cell 11; have z11 : w2.frozen? ⟨gq, 11, none⟩ = false := M.out.blk.frozen 11; have M2 := Lib.hid (M.out.put 11 (.int .i64 na)); clear x2))
      all_goals
        clear c0 c1 c2 c3 c4 c6 c14 c11 z11 M HP
        generalize w2.setCell ⟨gq, 11, none⟩ (.int .i64 na) = w3 at *
        have c8 : w3.cell? ⟨gq, 8, none⟩ = some (.pointer (some ⟨gr, 0, none⟩)) := M2.out.blk.cell 8
        have c15 : w3.cell? ⟨gq, 15, none⟩ = some (.int .u64 link) := M2.out.blk.cell 15
        have r5 : w3.cell? ⟨gr, 5, none⟩ = some (.int .i64 wh) := (HRd.out _ _ _ M2.out).cell 5
        have m3 := M2.out.ext ((Ext.refl w3).drew)
        have m3b := M2.out
        clear HRd
        go_wp2_with fail
        go_region_with (first
          | (go_at_call 101; refine (HE.out _ (by first | exact m3 | exact m3b)).mono ?_; rintro e w4 ⟨⟨u4, rfl⟩, hp⟩; have PP := Lib.hid hp; clear hp))
        all_goals
          go_wp2_with fail
          (first | (refine bodyPost_ret (results_none rfl _ _ _) rfl ?_) | (refine bodyPost_end (results_none rfl _ _ _) rfl ?_))
          exact ⟨⟨_, rfl⟩, PP.out⟩
    · have t1 : decide (k < key) = false := by simpa using hlt
      have HE := Lib.hid (HEnd.out (by omega))
      clear HEnd HLow hlt HP
      have c10 : w1.cell? ⟨gq, 10, none⟩ = some (.bool fnd) := M.out.blk.cell 10
      have z10 : w1.frozen? ⟨gq, 10, none⟩ = false := M.out.blk.frozen 10
      have c13 : w1.cell? ⟨gq, 13, none⟩ = some (.int .i64 came) := M.out.blk.cell 13
      have c16 : w1.cell? ⟨gq, 16, none⟩ = some (.int .i64 whn) := M.out.blk.cell 16
      have z16 : w1.frozen? ⟨gq, 16, none⟩ = false := M.out.blk.frozen 16
      obtain ⟨kb, hkb⟩ : ∃ kb : Bool, (k == key) = kb := ⟨_, rfl⟩
      have hkd : decide (k = key) = kb := by rw [← hkb]; rfl
      rw [hkb] at HE
      have M2 : Hid (RG B w ((w1.setCell ⟨gq, 10, none⟩ (.bool kb)).setCell ⟨gq, 16, none⟩ (.int .i64 came)) g R rv gq 83 (rsC t s l b th head key 4 (some ⟨gr, 0, none⟩) sp kb prev word came curr link came) st1) := Lib.hid ((M.out.put 10 (.bool kb)).put 16 (.int .i64 came))
      have hlt := M.out.blk.lt
      go_upto_region 27 with fail
      try rw [hkb]
      try rw [hkd]
      generalize (w1.setCell ⟨gq, 10, none⟩ (.bool kb)).setCell ⟨gq, 16, none⟩ (.int .i64 came) = w2 at *
      clear c6 c10 z10 c13 c16 z16 hlt M hkb hkd
      have c10 : w2.cell? ⟨gq, 10, none⟩ = some (.bool kb) := M2.out.blk.cell 10
      have c7 : w2.cell? ⟨gq, 7, none⟩ = some (.int .i64 4) := M2.out.blk.cell 7
      have z7 : w2.frozen? ⟨gq, 7, none⟩ = false := M2.out.blk.frozen 7
      have hlt := M2.out.blk.lt
      cases kb
      · have M3 := Lib.hid (M2.out.put 7 (.int .i64 0))
        go_wp2_with fail
        (first | (refine bodyPost_ret (results_none rfl _ _ _) rfl ?_) | (refine bodyPost_end (results_none rfl _ _ _) rfl ?_))
        exact ⟨⟨_, rfl⟩, HE.out _ M3.out⟩
      · have c8 : w2.cell? ⟨gq, 8, none⟩ = some (.pointer (some ⟨gr, 0, none⟩)) := M2.out.blk.cell 8
        have r5 : w2.cell? ⟨gr, 5, none⟩ = some (.int .i64 wh) := (HRd.out _ _ _ M2.out).cell 5
        have c16 : w2.cell? ⟨gq, 16, none⟩ = some (.int .i64 came) := M2.out.blk.cell 16
        have z16 : w2.frozen? ⟨gq, 16, none⟩ = false := M2.out.blk.frozen 16
        have M3 := Lib.hid ((M2.out.put 16 (.int .i64 wh)).put 7 (.int .i64 0))
        go_wp2_with fail
        (first | (refine bodyPost_ret (results_none rfl _ _ _) rfl ?_) | (refine bodyPost_end (results_none rfl _ _ _) rfl ?_))
        exact ⟨⟨_, rfl⟩, HE.out _ M3.out⟩
end
end Go.Proofs.YtbicloceaddinaaGreat


/- A Seek of the program beside the document's: what a step leaves of both. Conditions: those that each theorem names. -/
namespace Go.Proofs.YtbicloceaddinaaGreat
open Go.ChangeShapes Go.WideShapes Go.ChangeAt Go.RowKit
set_option linter.unusedVariables false
/-- The document's Seek, with its Read (where it is in, or done and still asked), or its Set. -/
structure RSk where
  line : Int
  prev : Int
  word : Int
  came : Int
  curr : Int
  link : Int
  whn : Int
  rp : Option Addr
  sp : Option Addr
  fnd : Bool
  rd : Option (Nat × Int × RLr)
  ps : Option (Nat × RLs)
def RSk.cells (r : RSk) (t s l b : Nat) (th head key : Int) : List Value := rsC t s l b th head key r.line r.rp r.sp r.fnd r.prev r.word r.came r.curr r.link r.whn
def RSk.ownB (r : RSk) (b : Nat) : Prop := (∃ q, r.rd = some q ∧ b = q.1) ∨ ∃ q, r.ps = some q ∧ b = q.1
def RSk.beg (r : RSk) (head : Int) (n : Nat) : RSk := ⟨1, head, r.word, r.came, r.curr, r.link, r.whn, some ⟨n, 0, none⟩, r.sp, r.fnd, some (n, head, rr0), none⟩
def RSk.on (F : Nat → Int) (r : RSk) (v u : Int) (n : Nat) : RSk :=
  if toN v < 0 then ⟨0, r.prev, v, u, toN v, 0, u, r.rp, r.sp, r.fnd, none, none⟩
  else ⟨2, r.prev, v, u, toN v, r.link, r.whn, some ⟨n, 0, none⟩, r.sp, r.fnd, some (n, nxtN F (toN v), rr0), none⟩
structure RsAt (B : Nat) (w : World) (g : Nat) (R : RefB) (rv : Value) (gq : Nat) (t s l b : Nat) (th head key : Int) (r : RSk) (st : MSt) : Prop where
  ref : IsRMem B w g R rv st
  blk : Blk w gq 83 (r.cells t s l b th head key)
  off : ¬ rfoot g R rv gq
  rd : ∀ q, r.rd = some q → (¬ rfoot g R rv q.1 ∧ q.1 ≠ gq) ∧ Blk w q.1 157 (q.2.2.cells th q.2.1)
  ps : ∀ q, r.ps = some q → (¬ rfoot g R rv q.1 ∧ q.1 ≠ gq) ∧ Blk w q.1 162 (q.2.cells th r.prev (clN r.word) (clN (r.link % 4294967296)))
structure RelK (F : Nat → Int) (head : Int) (x : SkM) (r : RSk) : Prop where
  wf : x.Wf
  line : r.line = (x.part : Int)
  fnd : r.fnd = x.fnd
  nf : x.part ≠ 0 → x.fnd = false
  p1 : x.part = 1 → x.hat = head ∧ r.prev = head
  rd : x.part = 1 ∨ x.part = 2 → ∃ n y n' y', x.rd = some (n, y) ∧ r.rd = some (n', x.hat, y') ∧ r.rp = some ⟨n', 0, none⟩ ∧ RelR y y'
  frm : x.part ≠ 1 → r.prev = x.fat ∧ r.word = x.fwd ∧ r.came = x.fwh ∧ r.curr = toN x.fwd
  hat2 : 2 ≤ x.part → x.hat = nxtN F (toN x.fwd)
  lnk : 3 ≤ x.part ∨ x.part = 0 → r.link = x.hwd
  ps : x.part = 3 → ∃ n y n' y', x.ps = some (n, y) ∧ r.ps = some (n', y') ∧ r.sp = some ⟨n', 0, none⟩ ∧ RelS y y'
  rd4 : x.part = 4 → ∃ n' a y', r.rd = some (n', a, y') ∧ r.rp = some ⟨n', 0, none⟩ ∧ y'.wh = x.hwh
  whn : x.part = 0 → r.whn = if x.fnd = true then x.hwh else x.fwh
theorem byN_rng (x : Int) : -1 ≤ byN x := by unfold byN; omega
theorem tkn_by {x : Int} : 0 ≤ byN x ↔ tkn x = true := by
  have h := byN_rng x
  unfold tkn
  rw [bne_iff_ne]
  omega
theorem RelK.beg {F : Nat → Int} {head : Int} {x : SkM} {r : RSk} {n n' : Nat} (hw : (x.beg head n).Wf) (hx : x.fnd = false) (hr : r.fnd = false) : RelK F head (x.beg head n) (r.beg head n') :=
  ⟨hw, rfl, hr.trans hx.symm, fun _ => hx, fun _ => ⟨rfl, rfl⟩, fun _ => ⟨n, lr0, n', rr0, rfl, rfl, rfl, RelR.zero⟩, fun hn => absurd rfl hn, fun (e : 2 ≤ (1 : Nat)) => absurd e (by decide), fun e => e.elim (fun (e : 3 ≤ (1 : Nat)) => absurd e (by decide)) (fun (e : (1 : Nat) = 0) => absurd e (by decide)), fun (e : (1 : Nat) = 3) => absurd e (by decide), fun (e : (1 : Nat) = 4) => absurd e (by decide), fun (e : (1 : Nat) = 0) => absurd e (by decide)⟩
theorem RelK.fol {F : Nat → Int} {head : Int} {x : SkM} {r : RSk} {a v u : Int} {n n' : Nat} (hv : W64 v) (hw : (x.fol F a v u n).Wf) (hx : x.fnd = false) (hr : r.fnd = false) (hp : r.prev = a) : RelK F head (x.fol F a v u n) (r.on F v u n') := by
  have h := toN_rng hv
  unfold SkM.fol RSk.on at *
  by_cases e : toN v = -1
  · rw [if_pos e] at hw ⊢
    rw [if_pos (show toN v < 0 by omega)]
    exact ⟨hw, rfl, hr.trans hx.symm, fun hn => absurd rfl hn, fun (e : (0 : Nat) = 1) => absurd e (by decide), fun e => e.elim (fun (e : (0 : Nat) = 1) => absurd e (by decide)) (fun (e : (0 : Nat) = 2) => absurd e (by decide)), fun _ => ⟨hp, rfl, rfl, rfl⟩, fun (e : 2 ≤ (0 : Nat)) => absurd e (by decide), fun _ => rfl, fun (e : (0 : Nat) = 3) => absurd e (by decide), fun (e : (0 : Nat) = 4) => absurd e (by decide), fun _ => by simp only; rw [hx]; rfl⟩
  · rw [if_neg e] at hw ⊢
    rw [if_neg (show ¬ toN v < 0 by omega)]
    exact ⟨hw, rfl, hr.trans hx.symm, fun _ => hx, fun (e : (2 : Nat) = 1) => absurd e (by decide), fun _ => ⟨n, lr0, n', rr0, rfl, rfl, rfl, RelR.zero⟩, fun _ => ⟨hp, rfl, rfl, rfl⟩, fun _ => rfl, fun e => e.elim (fun (e : 3 ≤ (2 : Nat)) => absurd e (by decide)) (fun (e : (2 : Nat) = 0) => absurd e (by decide)), fun (e : (2 : Nat) = 3) => absurd e (by decide), fun (e : (2 : Nat) = 4) => absurd e (by decide), fun (e : (2 : Nat) = 0) => absurd e (by decide)⟩
theorem RelK.lineB {F : Nat → Int} {head : Int} {x : SkM} {r : RSk} (h : RelK F head x r) : (r.line == 0) = decide (x.part = 0) := by
  rw [h.line, Bool.eq_iff_iff, beq_iff_eq, decide_eq_true_eq]
  omega
section
variable {B : Nat} {w w' : World} {g : Nat} {R : RefB} {rv : Value} {gq : Nat} {st : MSt} {t s l b : Nat} {th head key : Int} {x : SkM} {r r' : RSk}
theorem RsAt.ext (h : RsAt B w g R rv gq t s l b th head key r st) (e : Ext w w') : RsAt B w' g R rv gq t s l b th head key r st :=
  ⟨h.ref.ext e, h.blk.ext e, h.off, fun q hq => ⟨(h.rd q hq).1, (h.rd q hq).2.ext e⟩, fun q hq => ⟨(h.ps q hq).1, (h.ps q hq).2.ext e⟩⟩
theorem RsAt.offB (h : RsAt B w g R rv gq t s l b th head key r st) {c : Nat} (hc : r.ownB c) : ¬ rfoot g R rv c ∧ c ≠ gq := by
  rcases hc with ⟨q, e, rfl⟩ | ⟨q, e, rfl⟩
  · exact (h.rd q e).1
  · exact (h.ps q e).1
/-- A new Read of its own. -/
theorem RsAt.mkRd {av : Int} {n : Nat} (m : IsRMem B w g R rv st) (off : ¬ rfoot g R rv gq) (hlt : gq < w.heap.size) (f : Fr (fun b => b = gq) w w') (hn : w.heap.size ≤ n) (bn : Blk w' n 157 (rr0.cells th av)) (bs : Blk w' gq 83 (r'.cells t s l b th head key)) (er : r'.rd = some (n, av, rr0)) (ep : r'.ps = none) : RsAt B w' g R rv gq t s l b th head key r' st :=
  ⟨m.fr f (fun b hb hs => off (hs ▸ hb)), bs, off, fun q e => by
    rw [er] at e
    injection e with e
    subst e
    exact ⟨⟨fun hh => by have := (m.foot_lt hh).2; simp only at this; omega, by simp only; omega⟩, bn⟩, fun q e => by rw [ep] at e; cases e⟩
theorem RsAt.mkNo (m : IsRMem B w g R rv st) (off : ¬ rfoot g R rv gq) (f : Fr (fun b => b = gq) w w') (bs : Blk w' gq 83 (r'.cells t s l b th head key)) (er : r'.rd = none) (ep : r'.ps = none) : RsAt B w' g R rv gq t s l b th head key r' st :=
  ⟨m.fr f (fun b hb hs => off (hs ▸ hb)), bs, off, fun q e => (by rw [er] at e; cases e), fun q e => (by rw [ep] at e; cases e)⟩
/-- What a step of the document's Seek leaves beside the program's. -/
def RKPost (B : Nat) (w : World) (g : Nat) (R : RefB) (rv : Value) (gq : Nat) (t s l b : Nat) (th head key : Int) (x : SkM) (st : MSt) (own : Nat → Prop) (w' : World) : Prop :=
  ∃ (r' : RSk) (st' : MSt), (∀ n, (skS (layF t s l b) th head key x st n).2 = st' ∧ RelK (layF t s l b) head (skS (layF t s l b) th head key x st n).1 r') ∧ RsAt B w' g R rv gq t s l b th head key r' st' ∧ Fr (fun c => rfoot g R rv c ∨ c = gq ∨ own c) w w' ∧ ∀ c, r'.ownB c → own c ∨ w.heap.size ≤ c
/-- It begins anew. -/
theorem rbeg_at {W : World} {own : Nat → Prop} {st' : MSt} (m : IsRMem B W g R rv st') (off : ¬ rfoot g R rv gq) (fr : Fr (fun c => rfoot g R rv c ∨ c = gq ∨ own c) w W) (hb : Blk W gq 83 (r.cells t s l b th head key)) :
    Calls Tryz.prog 98 #[.pointer (some ⟨gq, 0, none⟩)] W fun e w' => (∃ u, e = .returned u) ∧ ∃ n, RsAt B w' g R rv gq t s l b th head key (r.beg head n) st' ∧ Fr (fun c => rfoot g R rv c ∨ c = gq ∨ own c) w w' ∧ ∀ c, (r.beg head n).ownB c → own c ∨ w.heap.size ≤ c := by
  refine (rbegin_ok hb).mono ?_
  rintro e w' ⟨hz, n, hn, bn, bs, f⟩
  refine ⟨hz, n, RsAt.mkRd m off hb.lt f hn bn bs rfl rfl, fr.trans f (fun c _ hc => Or.inr (Or.inl hc)), fun c hc => ?_⟩
  rcases hc with ⟨q, e, rfl⟩ | ⟨q, e, rfl⟩
  · have e2 : some (n, head, rr0) = some q := e
    injection e2 with e2
    subst e2
    have := fr.size
    exact Or.inr (by show w.heap.size ≤ n; omega)
  · have e2 : (none : Option (Nat × RLs)) = some q := e
    cases e2
/-- It goes on. -/
theorem ron_at {W : World} {own : Nat → Prop} {st' : MSt} {v u : Int} (cg : CfgN t s l b) (hv : W64 v) (m : IsRMem B W g R rv st') (off : ¬ rfoot g R rv gq) (fr : Fr (fun c => rfoot g R rv c ∨ c = gq ∨ own c) w W) (hb : Blk W gq 83 (r.cells t s l b th head key)) :
    Calls Tryz.prog 101 #[.pointer (some ⟨gq, 0, none⟩), .int .u64 v, .int .i64 u] W fun e w' => (∃ z, e = .returned z) ∧ ∃ n, RsAt B w' g R rv gq t s l b th head key (r.on (layF t s l b) v u n) st' ∧ Fr (fun c => rfoot g R rv c ∨ c = gq ∨ own c) w w' ∧ ∀ c, (r.on (layF t s l b) v u n).ownB c → own c ∨ w.heap.size ≤ c := by
  refine (ron_ok cg v u hv hb).mono ?_
  rintro e w' ⟨hz, f, ⟨ht, bs⟩ | ⟨ht, n, hn, bn, bs⟩⟩
  · have e1 : r.on (layF t s l b) v u 0 = ⟨0, r.prev, v, u, toN v, 0, u, r.rp, r.sp, r.fnd, none, none⟩ := if_pos ht
    refine ⟨hz, 0, ?_, fr.trans f (fun c _ hc => Or.inr (Or.inl hc)), fun c hc => ?_⟩
    · rw [e1]
      exact RsAt.mkNo m off f bs rfl rfl
    · rw [e1] at hc
      rcases hc with ⟨q, e, _⟩ | ⟨q, e, _⟩
      · cases e
      · cases e
  · have e1 : r.on (layF t s l b) v u n = ⟨2, r.prev, v, u, toN v, r.link, r.whn, some ⟨n, 0, none⟩, r.sp, r.fnd, some (n, nxtN (layF t s l b) (toN v), rr0), none⟩ := if_neg ht
    refine ⟨hz, n, ?_, fr.trans f (fun c _ hc => Or.inr (Or.inl hc)), fun c hc => ?_⟩
    · rw [e1]
      exact RsAt.mkRd m off hb.lt f hn bn bs rfl rfl
    · rw [e1] at hc
      rcases hc with ⟨q, e, rfl⟩ | ⟨q, e, rfl⟩
      · injection e with e
        subst e
        have := fr.size
        exact Or.inr (by show w.heap.size ≤ n; omega)
      · cases e
end
end Go.Proofs.YtbicloceaddinaaGreat


/- A step of the document's Seek beside the program's. Conditions: those that each theorem names. -/
namespace Go.Proofs.YtbicloceaddinaaGreat
open Go.ChangeShapes Go.WideShapes Go.ChangeAt Go.RowKit
set_option linter.unusedVariables false
section
variable {B : Nat} {w w' : World} {g : Nat} {R : RefB} {rv : Value} {gq : Nat} {st : MSt} {t s l b : Nat} {th head key : Int} {x : SkM} {r : RSk}
abbrev RKGoal (B : Nat) (w : World) (g : Nat) (R : RefB) (rv : Value) (gq : Nat) (t s l b : Nat) (th head key : Int) (x : SkM) (r : RSk) (st : MSt) : Prop :=
  Calls Tryz.prog 30 #[.pointer (some ⟨gq, 0, none⟩), .pointer (some ⟨g, 0, none⟩)] w fun e w' => (∃ u, e = .returned u) ∧ RKPost B w g R rv gq t s l b th head key x st r.ownB w'
set_option maxRecDepth 100000 in
set_option maxHeartbeats 4000000 in
theorem rk0 (h : RsAt B w g R rv gq t s l b th head key r st) (rel : RelK (layF t s l b) head x r) (e0 : x.part = 0) : RKGoal B w g R rv gq t s l b th head key x r st := by
  have hl : r.line = 0 := by rw [rel.line, e0]; rfl
  have HH : Hid (RKPost B w g R rv gq t s l b th head key x st r.ownB w) := Lib.hid ⟨r, st, fun n => by
    have e1 : skS (layF t s l b) th head key x st n = (x, st) := by unfold skS; rw [e0]; rfl
    rw [e1]
    exact ⟨rfl, rel⟩, h, Fr.refl _ _, fun c hc => Or.inl hc⟩
  have c7 : w.cell? ⟨gq, 7, none⟩ = some (.int .i64 0) := by
    have h2 := h.blk
    unfold RSk.cells at h2
    rw [hl] at h2
    exact h2.cell 7
  clear h rel e0 hl
  unfold RKGoal
  go_enter Tryz.func30, Tryz.ntmps30
  go_wp2_with fail
  (first | (refine bodyPost_ret (results_none rfl _ _ _) rfl ?_) | (refine bodyPost_end (results_none rfl _ _ _) rfl ?_))
  exact ⟨⟨_, rfl⟩, HH.out⟩
/-- A Read's step, and what stays. -/
theorem rk_read {n' : Nat} {av : Int} {y' : RLr} {i : Nat} (h : RsAt B w g R rv gq t s l b th head key r st) (e : r.rd = some (n', av, y')) (sd : Sound st.dev) (hc : Calm st) (hi : i ≤ 1000) (fine : Fine i st.dev) (ha : I64 av) (hy : y'.Wf) (hU : ∀ a, W64 (peekV st a)) :
    Calls Tryz.prog 99 #[.pointer (some ⟨n', 0, none⟩), .pointer (some ⟨g, 0, none⟩)] w fun e w1 => (∃ u, e = .returned u) ∧ (IsRMem B w1 g R rv (rlrS th av y' st).2 ∧ Blk w1 gq 83 (r.cells t s l b th head key) ∧ Blk w1 n' 157 ((rlrS th av y' st).1.cells th av) ∧ Fr (fun c => rfoot g R rv c ∨ c = gq ∨ r.ownB c) w w1) := by
  obtain ⟨⟨o1, o2⟩, hb⟩ := h.rd _ e
  refine (rlrStep_ok h.ref sd hc hi fine ha hb o1 hy hU).mono ?_
  rintro e' w1 ⟨hz, rg⟩
  refine ⟨hz, rg.ref, h.blk.fr rg.fr (fun hh => hh.elim h.off (fun e2 => o2 e2.symm)), rg.blk, rg.fr.mono (fun c _ hc => ?_)⟩
  rcases hc with hc | hc
  · exact Or.inl hc
  · exact Or.inr (Or.inr (Or.inl ⟨_, e, hc⟩))
theorem rk_set {n' : Nat} {y' : RLs} {i : Nat} (h : RsAt B w g R rv gq t s l b th head key r st) (e : r.ps = some (n', y')) (sd : Sound st.dev) (hc : Calm st) (hi : i ≤ 1000) (fine : Fine i st.dev) (ha : I64 r.prev) (hl : y'.line = 0 ∨ y'.line = 1 ∨ y'.line = 2 ∨ y'.line = 3 ∨ y'.line = 4) (hw : W64 (clN (r.link % 4294967296))) :
    Calls Tryz.prog 103 #[.pointer (some ⟨n', 0, none⟩), .pointer (some ⟨g, 0, none⟩)] w fun e w1 => (∃ u, e = .returned u) ∧ (IsRMem B w1 g R rv (rlsS th r.prev (clN r.word) (clN (r.link % 4294967296)) y' st).2 ∧ Blk w1 gq 83 (r.cells t s l b th head key) ∧ Blk w1 n' 162 ((rlsS th r.prev (clN r.word) (clN (r.link % 4294967296)) y' st).1.cells th r.prev (clN r.word) (clN (r.link % 4294967296))) ∧ Fr (fun c => rfoot g R rv c ∨ c = gq ∨ r.ownB c) w w1) := by
  obtain ⟨⟨o1, o2⟩, hb⟩ := h.ps _ e
  refine (rlsStep_ok h.ref sd hc hi fine ha hb o1 hl hw).mono ?_
  rintro e' w1 ⟨hz, rg⟩
  refine ⟨hz, rg.ref, h.blk.fr rg.fr (fun hh => hh.elim h.off (fun e2 => o2 e2.symm)), rg.blk, rg.fr.mono (fun c _ hc => ?_)⟩
  rcases hc with hc | hc
  · exact Or.inl hc
  · exact Or.inr (Or.inr (Or.inr ⟨_, e, hc⟩))
theorem RelR.told {x : LrM} {r : RLr} (h : RelR x r) : W64 r.wd ∧ (r.line = 0 ↔ x.dn = true) ∧ (x.dn = true → r.wd = x.wd ∧ r.wh = x.wh) := by
  have h1 := h.lineB
  refine ⟨?_, ?_, fun e => ⟨by rw [h.wd, if_pos e], by rw [h.wh, if_pos e]⟩⟩
  · rw [h.wd]
    split
    · exact h.xw.wd
    · exact w64_0
  · rw [← h1, beq_iff_eq]
theorem RelS.told {x : LsM} {r : RLs} (h : RelS x r) : (r.line = 0 ↔ x.dn = true) ∧ r.put = x.put ∧ (x.put = true → r.wh = x.wh) := by
  have h1 := h.lineB
  exact ⟨by rw [← h1, beq_iff_eq], h.put, fun e => by rw [h.wh, if_pos e]⟩
theorem rk1 {i : Nat} (h : RsAt B w g R rv gq t s l b th head key r st) (rel : RelK (layF t s l b) head x r) (sd : Sound st.dev) (hc : Calm st) (hi : i ≤ 1000) (fine : Fine i st.dev) (cg : CfgN t s l b) (ok : Okay (layF t s l b)) (hk : 0 ≤ key ∧ key < 4294967296) (hU : ∀ a, W64 (peekV st a)) (hh : I64 head) (e0 : x.part = 1) : RKGoal B w g R rv gq t s l b th head key x r st := by
  obtain ⟨n, y, n', y', ex, er, erp, hry⟩ := rel.rd (Or.inl e0)
  obtain ⟨es, hrel⟩ := hry.step (t := th) (a := x.hat) (s := st) hU
  have HR := rk_read h er sd hc hi fine rel.wf.hat hry.rw hU
  have eS : ∀ k, skS (layF t s l b) th head key x st k = sk1 (layF t s l b) head x n (lrS th x.hat y st) k := fun k => by unfold skS; rw [e0]; simp only; rw [ex]
  have hwf := fun k => skS_wf (F := layF t s l b) (th := th) (key := key) ok hh hU rel.wf k
  have hnf := rel.nf (by omega)
  have hrf := rel.fnd.trans hnf
  have hln : r.line = 1 := by rw [rel.line, e0]; rfl
  have hoff := h.off
  obtain ⟨⟨ro1, ro2⟩, rb0⟩ := h.rd _ er
  simp only at ro1 ro2
  simp only [eS] at hwf
  unfold RKGoal RKPost
  simp only [eS]
  generalize lrS th x.hat y st = p at *
  generalize rlrS th x.hat y' st = q at *
  obtain ⟨p1, p2⟩ := p
  obtain ⟨q1, q2⟩ := q
  simp only at es hrel HR
  subst es
  obtain ⟨hw64, hdn, htl⟩ := hrel.told
  obtain ⟨line, prev, word, came, curr, link, whn, rp, sp, fnd, rd, ps⟩ := r
  obtain ⟨rw1, rw2, rw3, rw4, rw5, rw6, rw7, rw8, rw9, rw10, rw11, rw12⟩ := rel
  simp only at er erp hln rw2 rw3 rw5 rw7 hrf rw9
  subst hln erp er
  have hp1 := rw5 e0
  refine rsk1_any (ln := q1.line) (got := q1.got) (wd := q1.wd) (wh := q1.wh) (av := x.hat) h.blk HR (fun W hg => ⟨hg.2.1, hg.2.2.1⟩) hw64 ?_ ?_ ?_
  · intro hne W hg
    have hd : p1.dn = false := by
      have h2 := mt hdn.2 hne
      simpa using h2
    have eT : ∀ k, sk1 (layF t s l b) head x n (p1, q2) k = (⟨1, x.rp, x.pp, x.fat, x.fwd, x.fwh, x.hat, x.hwd, x.hwh, x.fnd, some (n, p1), none⟩, q2) := fun k => by unfold sk1; simp only; rw [if_pos hd]
    refine ⟨⟨1, prev, word, came, curr, link, whn, some ⟨n', 0, none⟩, sp, fnd, some (n', x.hat, q1), none⟩, q2, fun k => ?_, ⟨hg.1, hg.2.1, hoff, fun q e => ?_, fun q e => (by cases e)⟩, hg.2.2.2, fun c hc => Or.inl ?_⟩
    · have h2 := hwf k
      rw [eT k] at h2 ⊢
      exact ⟨rfl, h2, rfl, hrf.trans hnf.symm, fun _ => hnf, fun _ => hp1, fun _ => ⟨n, p1, n', q1, rfl, rfl, rfl, hrel⟩, fun hn => absurd rfl hn, fun (e : 2 ≤ (1 : Nat)) => absurd e (by decide), fun e => e.elim (fun (e : 3 ≤ (1 : Nat)) => absurd e (by decide)) (fun (e : (1 : Nat) = 0) => absurd e (by decide)), fun (e : (1 : Nat) = 3) => absurd e (by decide), fun (e : (1 : Nat) = 4) => absurd e (by decide), fun (e : (1 : Nat) = 0) => absurd e (by decide)⟩
    · injection e with e
      subst e
      exact ⟨⟨ro1, ro2⟩, hg.2.2.1⟩
    · rcases hc with ⟨q, e, rfl⟩ | ⟨q, e, _⟩
      · injection e with e
        subst e
        exact Or.inl ⟨_, rfl, rfl⟩
      · cases e
  · intro hz hby W W' hg x2
    have hd := hdn.1 hz
    obtain ⟨t1, t2⟩ := htl hd
    have htk : tkn p1.wd = true := by rw [← t1]; exact tkn_by.1 hby
    have eT : ∀ k, sk1 (layF t s l b) head x n (p1, q2) k = (x.beg head k, q2) := fun k => by unfold sk1; simp only; rw [if_neg (by rw [hd]; decide), if_pos htk]
    refine (rbeg_at (w := w) (hg.1.ext x2) hoff (hg.2.2.2.then_ext x2) (hg.2.1.ext x2)).mono ?_
    rintro e w' ⟨hu, k', ra, fr', ho⟩
    refine ⟨hu, _, q2, fun k => ?_, ra, fr', ho⟩
    have h2 := hwf k
    rw [eT k] at h2 ⊢
    exact ⟨rfl, RelK.beg h2 hnf hrf⟩
  · intro hz hby W W' hg x2
    have hd := hdn.1 hz
    obtain ⟨t1, t2⟩ := htl hd
    have htk : ¬ tkn p1.wd = true := by rw [← t1]; exact fun hh => hby (tkn_by.2 hh)
    have eT : ∀ k, sk1 (layF t s l b) head x n (p1, q2) k = (x.fol (layF t s l b) x.hat p1.wd p1.wh k, q2) := fun k => by unfold sk1; simp only; rw [if_neg (by rw [hd]; decide), if_neg htk]
    refine (ron_at (w := w) cg hw64 (hg.1.ext x2) hoff (hg.2.2.2.then_ext x2) (hg.2.1.ext x2)).mono ?_
    rintro e w' ⟨hu, k', ra, fr', ho⟩
    refine ⟨hu, _, q2, fun k => ?_, ra, fr', ho⟩
    have h2 := hwf k
    rw [eT k] at h2 ⊢
    rw [t1, t2]
    exact ⟨rfl, RelK.fol (t1 ▸ hw64) h2 hnf hrf (hp1.2.trans hp1.1.symm)⟩
theorem rk2 {i : Nat} (h : RsAt B w g R rv gq t s l b th head key r st) (rel : RelK (layF t s l b) head x r) (sd : Sound st.dev) (hc : Calm st) (hi : i ≤ 1000) (fine : Fine i st.dev) (cg : CfgN t s l b) (ok : Okay (layF t s l b)) (hk : 0 ≤ key ∧ key < 4294967296) (hU : ∀ a, W64 (peekV st a)) (hh : I64 head) (e0 : x.part = 2) : RKGoal B w g R rv gq t s l b th head key x r st := by
  obtain ⟨n, y, n', y', ex, er, erp, hry⟩ := rel.rd (Or.inr e0)
  obtain ⟨es, hrel⟩ := hry.step (t := th) (a := x.hat) (s := st) hU
  have HR := rk_read h er sd hc hi fine rel.wf.hat hry.rw hU
  have eS : ∀ k, skS (layF t s l b) th head key x st k = sk2 x n (lrS th x.hat y st) k := fun k => by unfold skS; rw [e0]; simp only; rw [ex]
  have hwf := fun k => skS_wf (F := layF t s l b) (th := th) (key := key) ok hh hU rel.wf k
  have hnf := rel.nf (by omega)
  have hrf := rel.fnd.trans hnf
  have hln : r.line = 2 := by rw [rel.line, e0]; rfl
  have hoff := h.off
  obtain ⟨⟨ro1, ro2⟩, rb0⟩ := h.rd _ er
  simp only at ro1 ro2
  simp only [eS] at hwf
  unfold RKGoal RKPost
  simp only [eS]
  generalize lrS th x.hat y st = p at *
  generalize rlrS th x.hat y' st = q at *
  obtain ⟨p1, p2⟩ := p
  obtain ⟨q1, q2⟩ := q
  simp only at es hrel HR
  subst es
  obtain ⟨hw64, hdn, htl⟩ := hrel.told
  obtain ⟨line, prev, word, came, curr, link, whn, rp, sp, fnd, rd, ps⟩ := r
  obtain ⟨rw1, rw2, rw3, rw4, rw5, rw6, rw7, rw8, rw9, rw10, rw11, rw12⟩ := rel
  simp only at er erp hln rw2 rw3 rw5 rw7 hrf rw9
  subst hln erp er
  obtain ⟨f1, f2, f3, f4⟩ := rw7 (by omega)
  have hh2 := rw8 (by omega)
  subst f1 f2 f3 f4
  refine rsk2_any (ln := q1.line) (got := q1.got) (wd := q1.wd) (wh := q1.wh) (av := x.hat) h.blk HR (fun W hg => ⟨hg.2.1, hg.2.2.1⟩) hw64 rw1.fwd ?_ ?_ ?_
  · intro hne W hg
    have hd : p1.dn = false := by
      have h2 := mt hdn.2 hne
      simpa using h2
    have eT : ∀ k, sk2 x n (p1, q2) k = (⟨2, x.rp, x.pp, x.fat, x.fwd, x.fwh, x.hat, x.hwd, x.hwh, x.fnd, some (n, p1), none⟩, q2) := fun k => by unfold sk2; simp only; rw [if_pos hd]
    refine ⟨⟨2, x.fat, x.fwd, x.fwh, toN x.fwd, link, whn, some ⟨n', 0, none⟩, sp, fnd, some (n', x.hat, q1), none⟩, q2, fun k => ?_, ⟨hg.1, hg.2.1, hoff, fun q e => ?_, fun q e => (by cases e)⟩, hg.2.2.2, fun c hc => Or.inl ?_⟩
    · have h2 := hwf k
      rw [eT k] at h2 ⊢
      exact ⟨rfl, h2, rfl, hrf.trans hnf.symm, fun _ => hnf, fun (e : (2 : Nat) = 1) => absurd e (by decide), fun _ => ⟨n, p1, n', q1, rfl, rfl, rfl, hrel⟩, fun _ => ⟨rfl, rfl, rfl, rfl⟩, fun _ => hh2, fun e => e.elim (fun (e : 3 ≤ (2 : Nat)) => absurd e (by decide)) (fun (e : (2 : Nat) = 0) => absurd e (by decide)), fun (e : (2 : Nat) = 3) => absurd e (by decide), fun (e : (2 : Nat) = 4) => absurd e (by decide), fun (e : (2 : Nat) = 0) => absurd e (by decide)⟩
    · injection e with e
      subst e
      exact ⟨⟨ro1, ro2⟩, hg.2.2.1⟩
    · rcases hc with ⟨q, e, rfl⟩ | ⟨q, e, _⟩
      · injection e with e
        subst e
        exact Or.inl ⟨_, rfl, rfl⟩
      · cases e
  · intro hz hby W w' gn hg hgn bn bs fr'
    have hd := hdn.1 hz
    obtain ⟨t1, t2⟩ := htl hd
    have htk : tkn p1.wd = true := by rw [← t1]; exact tkn_by.1 hby
    have eT : ∀ k, sk2 x n (p1, q2) k = (⟨3, x.rp, some ⟨k, 0, none⟩, x.fat, x.fwd, x.fwh, x.hat, p1.wd, p1.wh, x.fnd, none, some (k, ls0)⟩, q2) := fun k => by unfold sk2; simp only; rw [if_neg (by rw [hd]; decide), if_pos htk]
    have hsz := hg.2.2.2.size
    refine ⟨⟨3, x.fat, x.fwd, x.fwh, toN x.fwd, q1.wd, whn, some ⟨n', 0, none⟩, some ⟨gn, 0, none⟩, fnd, none, some (gn, rs0)⟩, q2, fun k => ?_, ⟨hg.1.fr fr' (fun c hb hs => hoff (hs ▸ hb)), bs, hoff, fun q e => (by cases e), fun q e => ?_⟩, hg.2.2.2.trans fr' (fun c _ hc => Or.inr (Or.inl hc)), fun c hc => ?_⟩
    · have h2 := hwf k
      rw [eT k] at h2 ⊢
      exact ⟨rfl, h2, rfl, hrf.trans hnf.symm, fun _ => hnf, fun (e : (3 : Nat) = 1) => absurd e (by decide), fun e => e.elim (fun (e : (3 : Nat) = 1) => absurd e (by decide)) (fun (e : (3 : Nat) = 2) => absurd e (by decide)), fun _ => ⟨rfl, rfl, rfl, rfl⟩, fun _ => hh2, fun _ => t1, fun _ => ⟨k, ls0, gn, rs0, rfl, rfl, rfl, RelS.zero⟩, fun (e : (3 : Nat) = 4) => absurd e (by decide), fun (e : (3 : Nat) = 0) => absurd e (by decide)⟩
    · injection e with e
      subst e
      exact ⟨⟨fun hf => by have := (hg.1.foot_lt hf).2; simp only at this; omega, by have := hg.2.1.lt; simp only; omega⟩, bn⟩
    · rcases hc with ⟨q, e, _⟩ | ⟨q, e, rfl⟩
      · cases e
      · injection e with e
        subst e
        exact Or.inr (by show w.heap.size ≤ gn; omega)
  · intro hz hby W w' hg bs fr'
    have hd := hdn.1 hz
    obtain ⟨t1, t2⟩ := htl hd
    have htk : ¬ tkn p1.wd = true := by rw [← t1]; exact fun hh => hby (tkn_by.2 hh)
    have eT : ∀ k, sk2 x n (p1, q2) k = (⟨4, x.rp, x.pp, x.fat, x.fwd, x.fwh, x.hat, p1.wd, p1.wh, x.fnd, none, none⟩, q2) := fun k => by unfold sk2; simp only; rw [if_neg (by rw [hd]; decide), if_neg htk]
    refine ⟨⟨4, x.fat, x.fwd, x.fwh, toN x.fwd, q1.wd, whn, some ⟨n', 0, none⟩, sp, fnd, some (n', x.hat, q1), none⟩, q2, fun k => ?_, ⟨hg.1.fr fr' (fun c hb hs => hoff (hs ▸ hb)), bs, hoff, fun q e => ?_, fun q e => (by cases e)⟩, hg.2.2.2.trans fr' (fun c _ hc => Or.inr (Or.inl hc)), fun c hc => Or.inl ?_⟩
    · have h2 := hwf k
      rw [eT k] at h2 ⊢
      exact ⟨rfl, h2, rfl, hrf.trans hnf.symm, fun _ => hnf, fun (e : (4 : Nat) = 1) => absurd e (by decide), fun e => e.elim (fun (e : (4 : Nat) = 1) => absurd e (by decide)) (fun (e : (4 : Nat) = 2) => absurd e (by decide)), fun _ => ⟨rfl, rfl, rfl, rfl⟩, fun _ => hh2, fun _ => t1, fun (e : (4 : Nat) = 3) => absurd e (by decide), fun _ => ⟨n', x.hat, q1, rfl, rfl, t2⟩, fun (e : (4 : Nat) = 0) => absurd e (by decide)⟩
    · injection e with e
      subst e
      exact ⟨⟨ro1, ro2⟩, hg.2.2.1.fr fr' (fun hs => ro2 hs)⟩
    · rcases hc with ⟨q, e, rfl⟩ | ⟨q, e, _⟩
      · injection e with e
        subst e
        exact Or.inl ⟨_, rfl, rfl⟩
      · cases e
theorem rk3 {i : Nat} (h : RsAt B w g R rv gq t s l b th head key r st) (rel : RelK (layF t s l b) head x r) (sd : Sound st.dev) (hc : Calm st) (hi : i ≤ 1000) (fine : Fine i st.dev) (cg : CfgN t s l b) (ok : Okay (layF t s l b)) (hk : 0 ≤ key ∧ key < 4294967296) (hU : ∀ a, W64 (peekV st a)) (hh : I64 head) (e0 : x.part = 3) : RKGoal B w g R rv gq t s l b th head key x r st := by
  obtain ⟨n, y, n', y', ex, er, erp, hry⟩ := rel.ps e0
  obtain ⟨f1, f2, f3, f4⟩ := rel.frm (by omega)
  have f5 := rel.lnk (Or.inl (by omega))
  have hh2 := rel.hat2 (by omega)
  obtain ⟨es, hrel⟩ := hry.step (t := th) (a := x.fat) (w := bhN x.hwd) (o := x.fwd) (s := st)
  have hwc : W64 (clN (r.link % 4294967296)) := clN_rng _
  have HR := rk_set h er sd hc hi fine (f1 ▸ rel.wf.fat) hry.lineOk hwc
  have eS : ∀ k, skS (layF t s l b) th head key x st k = sk3 (layF t s l b) head x n (lsS th x.fat (soN (bhN x.hwd)) (clN x.fwd) y st) k := fun k => by unfold skS; rw [e0]; simp only; rw [ex]
  have hwf := fun k => skS_wf (F := layF t s l b) (th := th) (key := key) ok hh hU rel.wf k
  have hnf := rel.nf (by omega)
  have hrf := rel.fnd.trans hnf
  have hln : r.line = 3 := by rw [rel.line, e0]; rfl
  have hoff := h.off
  obtain ⟨⟨ro1, ro2⟩, rb0⟩ := h.ps _ er
  simp only at ro1 ro2
  simp only [eS] at hwf
  unfold RKGoal RKPost
  simp only [eS]
  have eB : bhN x.hwd = x.hwd % 4294967296 := rfl
  rw [f1, f2, f5, ← eB] at HR
  generalize lsS th x.fat (soN (bhN x.hwd)) (clN x.fwd) y st = p at *
  generalize rlsS th x.fat (clN x.fwd) (clN (bhN x.hwd)) y' st = q at *
  obtain ⟨p1, p2⟩ := p
  obtain ⟨q1, q2⟩ := q
  simp only at es hrel HR
  subst es
  obtain ⟨hdn, hpu, htl⟩ := hrel.told
  obtain ⟨line, prev, word, came, curr, link, whn, rp, sp, fnd, rd, ps⟩ := r
  obtain ⟨rw1, rw2, rw3, rw4, rw5, rw6, rw7, rw8, rw9, rw10, rw11, rw12⟩ := rel
  simp only at er erp hln rw2 rw3 hrf f1 f2 f3 f4 f5
  subst hln erp er f1 f2 f3 f4 f5
  refine rsk3_any (ln := q1.line) (put := q1.put) (wh := q1.wh) (wr := q1.wr) (av := x.fat) (old := clN x.fwd) (nw := clN (bhN x.hwd)) h.blk HR (fun W hg => ⟨hg.2.1, hg.2.2.1⟩) rw1.hwd ?_ ?_ ?_
  · intro hne W hg
    have hd : p1.dn = false := by
      have h2 := mt hdn.2 hne
      simpa using h2
    have eT : ∀ k, sk3 (layF t s l b) head x n (p1, q2) k = (⟨3, x.rp, x.pp, x.fat, x.fwd, x.fwh, x.hat, x.hwd, x.hwh, x.fnd, none, some (n, p1)⟩, q2) := fun k => by unfold sk3; simp only; rw [if_pos hd]
    refine ⟨⟨3, x.fat, x.fwd, x.fwh, toN x.fwd, x.hwd, whn, rp, some ⟨n', 0, none⟩, fnd, none, some (n', q1)⟩, q2, fun k => ?_, ⟨hg.1, hg.2.1, hoff, fun q e => (by cases e), fun q e => ?_⟩, hg.2.2.2, fun c hc => Or.inl ?_⟩
    · have h2 := hwf k
      rw [eT k] at h2 ⊢
      exact ⟨rfl, h2, rfl, hrf.trans hnf.symm, fun _ => hnf, fun (e : (3 : Nat) = 1) => absurd e (by decide), fun e => e.elim (fun (e : (3 : Nat) = 1) => absurd e (by decide)) (fun (e : (3 : Nat) = 2) => absurd e (by decide)), fun _ => ⟨rfl, rfl, rfl, rfl⟩, fun _ => hh2, fun _ => rfl, fun _ => ⟨n, p1, n', q1, rfl, rfl, rfl, hrel⟩, fun (e : (3 : Nat) = 4) => absurd e (by decide), fun (e : (3 : Nat) = 0) => absurd e (by decide)⟩
    · injection e with e
      subst e
      exact ⟨⟨ro1, ro2⟩, hg.2.2.1⟩
    · rcases hc with ⟨q, e, _⟩ | ⟨q, e, rfl⟩
      · cases e
      · injection e with e
        subst e
        exact Or.inr ⟨_, rfl, rfl⟩
  · intro hz hpt W W' hg x2
    have hd := hdn.1 hz
    have eT : ∀ k, sk3 (layF t s l b) head x n (p1, q2) k = (x.beg head k, q2) := fun k => by unfold sk3; simp only; rw [if_neg (by rw [hd]; decide), if_pos (hpu ▸ hpt)]
    refine (rbeg_at (w := w) (hg.1.ext x2) hoff (hg.2.2.2.then_ext x2) (hg.2.1.ext x2)).mono ?_
    rintro e w' ⟨hu, k', ra, fr', ho⟩
    refine ⟨hu, _, q2, fun k => ?_, ra, fr', ho⟩
    have h2 := hwf k
    rw [eT k] at h2 ⊢
    exact ⟨rfl, RelK.beg h2 hnf hrf⟩
  · intro hz hpt W W' hg x2
    have hd := hdn.1 hz
    have hp2 : p1.put = true := hpu ▸ hpt
    have eT : ∀ k, sk3 (layF t s l b) head x n (p1, q2) k = (x.fol (layF t s l b) x.fat (bhN x.hwd) p1.wh k, q2) := fun k => by unfold sk3; simp only; rw [if_neg (by rw [hd]; decide), if_neg (by rw [hp2]; decide)]
    refine (ron_at (w := w) cg (bhN_rng x.hwd) (hg.1.ext x2) hoff (hg.2.2.2.then_ext x2) (hg.2.1.ext x2)).mono ?_
    rintro e w' ⟨hu, k', ra, fr', ho⟩
    refine ⟨hu, _, q2, fun k => ?_, ra, fr', ho⟩
    have h2 := hwf k
    rw [eT k] at h2 ⊢
    rw [htl hp2]
    exact ⟨rfl, RelK.fol (bhN_rng x.hwd) h2 hnf hrf rfl⟩
theorem rk4 {i : Nat} (h : RsAt B w g R rv gq t s l b th head key r st) (rel : RelK (layF t s l b) head x r) (sd : Sound st.dev) (hc : Calm st) (hi : i ≤ 1000) (fine : Fine i st.dev) (cg : CfgN t s l b) (ok : Okay (layF t s l b)) (hk : 0 ≤ key ∧ key < 4294967296) (hU : ∀ a, W64 (peekV st a)) (hh : I64 head) (e0 : x.part = 4) : RKGoal B w g R rv gq t s l b th head key x r st := by
  obtain ⟨n', a, y', er, erp, hwh⟩ := rel.rd4 e0
  obtain ⟨f1, f2, f3, f4⟩ := rel.frm (by omega)
  have f5 := rel.lnk (Or.inl (by omega))
  have hh2 := rel.hat2 (by omega)
  have eS : ∀ k, skS (layF t s l b) th head key x st k = sk4 (layF t s l b) th key x st k := fun k => by unfold skS; rw [e0]; rfl
  have hwf := fun k => skS_wf (F := layF t s l b) (th := th) (key := key) ok hh hU rel.wf k
  have hnf := rel.nf (by omega)
  have hrf := rel.fnd.trans hnf
  have hln : r.line = 4 := by rw [rel.line, e0]; rfl
  have hoff := h.off
  obtain ⟨⟨ro1, ro2⟩, rb0⟩ := h.rd _ er
  simp only at ro1 ro2
  simp only [eS] at hwf
  unfold RKGoal RKPost
  simp only [eS]
  obtain ⟨line, prev, word, came, curr, link, whn, rp, sp, fnd, rd, ps⟩ := r
  obtain ⟨rw1, rw2, rw3, rw4, rw5, rw6, rw7, rw8, rw9, rw10, rw11, rw12⟩ := rel
  simp only at er erp hln rw2 rw3 hrf f1 f2 f3 f4 f5
  subst hln erp er f1 f2 f3 f4 f5
  have frO : ∀ W, Fr (fun c => rfoot g R rv c ∨ c = gq) w W → Fr (fun c => rfoot g R rv c ∨ c = gq ∨ RSk.ownB ⟨4, x.fat, x.fwd, x.fwh, toN x.fwd, x.hwd, whn, some ⟨n', 0, none⟩, sp, fnd, some (n', a, y'), ps⟩ c) w W := fun W f => f.mono (fun c _ hc => hc.elim Or.inl (fun e => Or.inr (Or.inl e)))
  refine rsk4_any (ln := y'.line) (got := y'.got) (wd := y'.wd) (wh := y'.wh) (av := a) h.ref sd hc cg ok h.blk hoff rb0 ro1 ro2 hk hU ?_ ?_
  · intro hlt W rg
    have eT : ∀ k, sk4 (layF t s l b) th key x st k = (x.fol (layF t s l b) x.hat x.hwd x.hwh k, st.load th (keyN (layF t s l b) (toN x.fwd))) := fun k => by unfold sk4; rw [if_pos hlt]
    refine (ron_at (r := ⟨4, nxtN (layF t s l b) (toN x.fwd), x.fwd, x.fwh, toN x.fwd, x.hwd, whn, some ⟨n', 0, none⟩, sp, fnd, none, none⟩) (w := w) cg rw1.hwd rg.ref hoff (frO W rg.fr) rg.blk).mono ?_
    rintro e w' ⟨hu, k', ra, fr', ho⟩
    refine ⟨hu, _, _, fun k => ?_, ra, fr', ho⟩
    have h2 := hwf k
    rw [eT k] at h2 ⊢
    rw [hwh]
    exact ⟨rfl, RelK.fol rw1.hwd h2 hnf hrf hh2.symm⟩
  · intro hlt W rg
    have eT : ∀ k, sk4 (layF t s l b) th key x st k = (⟨0, x.rp, x.pp, x.fat, x.fwd, x.fwh, x.hat, x.hwd, x.hwh, peekV st (keyN (layF t s l b) (toN x.fwd)) % 4294967296 == key, none, none⟩, st.load th (keyN (layF t s l b) (toN x.fwd))) := fun k => by unfold sk4; rw [if_neg hlt]
    refine ⟨⟨0, x.fat, x.fwd, x.fwh, toN x.fwd, x.hwd, if (peekV st (keyN (layF t s l b) (toN x.fwd)) % 4294967296 == key) = true then y'.wh else x.fwh, some ⟨n', 0, none⟩, sp, peekV st (keyN (layF t s l b) (toN x.fwd)) % 4294967296 == key, none, none⟩, _, fun k => ?_, ⟨rg.ref, rg.blk, hoff, fun q e => (by cases e), fun q e => (by cases e)⟩, frO W rg.fr, fun c hc => ?_⟩
    · have h2 := hwf k
      rw [eT k] at h2 ⊢
      exact ⟨rfl, h2, rfl, rfl, fun hn => absurd rfl hn, fun (e : (0 : Nat) = 1) => absurd e (by decide), fun e => e.elim (fun (e : (0 : Nat) = 1) => absurd e (by decide)) (fun (e : (0 : Nat) = 2) => absurd e (by decide)), fun _ => ⟨rfl, rfl, rfl, rfl⟩, fun (e : 2 ≤ (0 : Nat)) => absurd e (by decide), fun _ => rfl, fun (e : (0 : Nat) = 3) => absurd e (by decide), fun (e : (0 : Nat) = 4) => absurd e (by decide), fun _ => by simp only; rw [hwh]⟩
    · rcases hc with ⟨q, e, _⟩ | ⟨q, e, _⟩
      · cases e
      · cases e
/-- **A STEP OF THE DOCUMENT'S SEEK, BESIDE THE PROGRAM'S.** -/
theorem rseek_ok {i : Nat} (h : RsAt B w g R rv gq t s l b th head key r st) (rel : RelK (layF t s l b) head x r) (sd : Sound st.dev) (hc : Calm st) (hi : i ≤ 1000) (fine : Fine i st.dev) (cg : CfgN t s l b) (ok : Okay (layF t s l b)) (hk : 0 ≤ key ∧ key < 4294967296) (hU : ∀ a, W64 (peekV st a)) (hh : I64 head) : RKGoal B w g R rv gq t s l b th head key x r st := by
  have hp := rel.wf.part
  have hcs : x.part = 0 ∨ x.part = 1 ∨ x.part = 2 ∨ x.part = 3 ∨ x.part = 4 := by omega
  rcases hcs with e | e | e | e | e
  · exact rk0 h rel e
  · exact rk1 h rel sd hc hi fine cg ok hk hU hh e
  · exact rk2 h rel sd hc hi fine cg ok hk hU hh e
  · exact rk3 h rel sd hc hi fine cg ok hk hU hh e
  · exact rk4 h rel sd hc hi fine cg ok hk hU hh e
end
end Go.Proofs.YtbicloceaddinaaGreat

