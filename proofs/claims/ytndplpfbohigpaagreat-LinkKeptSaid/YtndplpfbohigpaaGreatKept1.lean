/- What each thread of LinkKept has; a step of it. Conditions: those that each theorem names. -/
import Derived.Test.YtndplpfbohigpaaGreatKLk
import Derived.Test.YtndplpfbohigpaaGreatLk4
import Derived.Test.YtndplpfbohigpaaGreatMany2
import Derived.Deep.RegionHeld3
import Derived.Deep.DeepCutAuto
import Derived.Deep.CutBlock
import Derived.Deep.MidRow
namespace Go.Proofs.YtndplpfbohigpaaGreat
open Go.ChangeShapes Go.WideShapes Go.ChangeAt Go.RowKit
set_option linter.unusedVariables false
section
variable {C : TypeId} {sz : Nat} {w1 w w' : World} {gm : Nat} {dv pv : Value} {gl gh : Nat} {F : Nat → Int} {rows : List (List Value)} {os : List Owned} {tt : Nat} {r : List Value} {o : Owned} {s s' : MSt}
theorem HAt.drop (h : HAt C sz w1 w gm dv pv gl gh F rows os tt r o s) : HAt C sz w1 w gm dv pv gl gh F rows os tt r none s :=
  ⟨by have := h.m.drop (i := tt) (by rw [List.length_set]; exact h.h2); rw [List.set_set] at this; exact this, h.hl, h.hr, h.h1, h.h2⟩
theorem HAt.step {g : Nat} {T : TypeId} {cs cs' : List Value} (h : HAt C sz w1 w gm dv pv gl gh F rows os tt r (some (g, T, cs)) s)
    (m : IsMem (fun q => q = gl ∨ q = gh ∨ ∃ (i : Nat) (p : Nat × TypeId × List Value), (os.set tt (some (g, T, cs)))[i]? = some (some p) ∧ q = p.1) w' w1 w' gm dv pv s') (hb : Blk w' g T cs') (k : ∀ b, (b = gl ∨ b = gh ∨ ∃ (i : Nat) (p : Nat × TypeId × List Value), (os.set tt (some (g, T, cs)))[i]? = some (some p) ∧ b = p.1) → b ≠ g → w'.heap[b]? = w.heap[b]?) :
    HAt C sz w1 w' gm dv pv gl gh F rows os tt r (some (g, T, cs')) s' :=
  ⟨by have := h.m.step h.own m hb k; rw [List.set_set] at this; exact this, h.hl, h.hr, h.h1, h.h2⟩
end
theorem IsMem.keptU {Q : Nat → Prop} {wb w0 w : World} {gm : Nat} {dv pv : Value} {s : MSt} (h : IsMem Q wb w0 w gm dv pv s) (i : Nat) : W64 (s.dev.kept.getD i 0) := by
  obtain ⟨D, -, hd, -⟩ := h.dev
  exact lim_at hd.lk (by decide) _
def LH.cells : LH → List Value
  | .off => [.pointer none, .pointer none]
  | .read g _ _ => [.pointer (some ⟨g, 0, none⟩), .pointer none]
  | .set g _ _ _ _ => [.pointer none, .pointer (some ⟨g, 0, none⟩)]
def LH.own (i : Nat) : LH → Owned
  | .off => none
  | .read g a x => some (g, 240, x.cells i a)
  | .set g a o n x => some (g, 242, x.cells i a (soN n) o)
def LH.at9 : LH → Prop
  | .off => True
  | .read _ a _ => 20 ≤ a ∧ a < 28
  | .set _ a _ _ _ => 20 ≤ a ∧ a < 28
/-- What it does next, where it is done: g is the block of the machine that it makes. -/
def LH.next (rd : Bool) (a v : Int) (i g : Nat) (h : LH) : LH := if h.dn = true then (if rd = true then .read g a ⟨0, 0, 0, false⟩ else .set g a (clN v) (linkN i) ⟨0, 0, false, false, 0⟩) else h
def LH.step (t : Nat) (h : LH) (s : MSt) : LH × MSt :=
  match h with
  | .off => (.off, s)
  | .read g a x => (.read g a (lrS t a x s).1, (lrS t a x s).2)
  | .set g a o n x => (.set g a o n (lsS t a (soN n) o x s).1, (lsS t a (soN n) o x s).2)
theorem link_num (j : Nat) (h : j ≤ 1000) (W : World) : Calls Tryz.prog 89 #[.int .i64 j, .int .i64 (-1)] W fun e w' => e = .returned (.int .u64 (linkN j)) ∧ Ext W w' := (link_any j (-1) (by omega) (by omega) (by decide) (by decide) W).mono (fun e w' hh => by
  obtain ⟨e1, x⟩ := hh
  refine ⟨?_, x⟩
  rw [e1]
  have : ((j : Int) + 1) % 4294967296 + 4294967296 * ((-1 + 1) % 128) = linkN j := by unfold linkN; omega
  rw [this])
section
variable {w1 w : World} {gm : Nat} {dv pv : Value} {gl gh : Nat} {F : Nat → Int} {rows : List (List Value)} {os : List Owned} {tt : Nat} {s : MSt}
set_option maxRecDepth 100000 in
set_option maxHeartbeats 8000000 in
/-- A step of a thread. -/
theorem handStep_ok {h : LH} (HH : HAt 139 2 w1 w gm dv pv gl gh F rows os tt h.cells (h.own tt) s) (hw : h.Wf) (h9 : h.at9) (hc : Calm s) {k : Nat} (hk : k ≤ 1000) (fine : Fine k s.dev) (htt : tt ≤ 1000) (a : Int) (ha : 20 ≤ a ∧ a < 28) (i : Nat) (hi : i ≤ 1000) (rd : Bool) :
    Calls Tryz.prog 87 #[.pointer (some ⟨gh, tt * 2, none⟩), .pointer (some ⟨gm, 0, none⟩), .int .i64 tt, .int .i64 a, .int .i64 i, .bool rd] w fun e w' => (∃ u, e = .returned u) ∧ ∃ g, HAt 139 2 w1 w' gm dv pv gl gh F rows os tt ((h.next rd a (peekV s a) i g).step tt s).1.cells (((h.next rd a (peekV s a) i g).step tt s).1.own tt) ((h.next rd a (peekV s a) i g).step tt s).2 := by
  have HA := Lib.hid HH
  have HC := Lib.hid hc
  have HFi := Lib.hid fine
  have H9 := Lib.hid h9
  have HW := Lib.hid hw
  have ha64 : I64 a := ⟨by omega, by omega⟩
  have HA64 := Lib.hid ha64
  have HLk := Lib.hid (fun W => link_num i hi W)
  have hwl : W64 (linkN i) := by unfold linkN; exact ⟨by omega, by omega⟩
  have hU := HH.m.m.peekU a
  have HNr := Lib.hid (fun W => newRead_ok W (tt : Int) a)
  have HNs := Lib.hid (fun W => newSet_ok W (tt : Int) a (peekV s a) (linkN i) hU hwl)
  have HPk := HH.m.m.peek a ha64.1 ha64.2
  have HAa := Lib.hid ha
  obtain ⟨lk, hlk⟩ : ∃ lk, linkN i = lk := ⟨_, rfl⟩
  rw [hlk] at HLk HNs
  have HLkE := Lib.hid hlk
  obtain ⟨pvv, hpv⟩ : ∃ pvv, peekV s a = pvv := ⟨_, rfl⟩
  obtain ⟨pbb, hpb⟩ : ∃ pbb, peekB s a = pbb := ⟨_, rfl⟩
  rw [hpv, hpb] at HPk
  rw [hpv] at HNs ⊢
  have HPk1 := Lib.hid HPk
  have c0 : w.cell? ⟨gh, tt * 2, none⟩ = h.cells[0]? := HH.cell (f := 0) (by decide)
  have c1 : w.cell? ⟨gh, tt * 2 + 1, none⟩ = h.cells[1]? := HH.cell (f := 1) (by decide)
  clear hwl hU HPk hlk hpv hpb h9 hw ha64 ha fine hc
  obtain ⟨d0, hd0⟩ : ∃ d0, h.dn = d0 := ⟨_, rfl⟩
  have HD0 := Lib.hid hd0
  clear hd0
  go_enter Tryz.func87, Tryz.ntmps87
  go_upto_region 0 with fail
  go_cut [25] (fun s25 wx => s25 = .bool d0 ∧ w = wx)
  case first =>
    cases h with
    | off =>
      have z0 : w.cell? ⟨gh, tt * 2, none⟩ = some (.pointer none) := c0
      have z1 : w.cell? ⟨gh, tt * 2 + 1, none⟩ = some (.pointer none) := c1
      have hd1 : true = d0 := HD0.out
      subst hd1
      clear c0 c1 HH HA
      go_wp2_with fail
      refine (lrDone_nil _).mono ?_
      rintro e w' ⟨rfl, rfl⟩
      go_wp2_with fail
      refine (lsDone_nil _).mono ?_
      rintro e w' ⟨rfl, rfl⟩
      go_wp2_with fail
      go_meet
      exact ⟨rfl, rfl⟩
    | read g0 a0 x0 =>
      have z0 : w.cell? ⟨gh, tt * 2, none⟩ = some (.pointer (some ⟨g0, 0, none⟩)) := c0
      have z1 : w.cell? ⟨gh, tt * 2 + 1, none⟩ = some (.pointer none) := c1
      obtain ⟨part, wd, wh, dn⟩ := x0
      have hd1 : dn = d0 := HD0.out
      subst hd1
      have hb := HH.blk
      have HD := Lib.hid (lrDone_ok w g0 dn (hb.cell 5))
      clear c0 c1 HH hb HA
      cases dn
      · go_wp2_with fail
        refine HD.out.mono ?_
        rintro e w' ⟨rfl, rfl⟩
        go_wp2_with fail
        go_meet
        exact ⟨rfl, rfl⟩
      · go_wp2_with fail
        refine HD.out.mono ?_
        rintro e w' ⟨rfl, rfl⟩
        go_wp2_with fail
        refine (lsDone_nil _).mono ?_
        rintro e w' ⟨rfl, rfl⟩
        go_wp2_with fail
        go_meet
        exact ⟨rfl, rfl⟩
    | set g0 a0 o0 n0 x0 =>
      have z0 : w.cell? ⟨gh, tt * 2, none⟩ = some (.pointer none) := c0
      have z1 : w.cell? ⟨gh, tt * 2 + 1, none⟩ = some (.pointer (some ⟨g0, 0, none⟩)) := c1
      obtain ⟨part, wh, dn, put, wr⟩ := x0
      have hd1 : dn = d0 := HD0.out
      subst hd1
      have hb := HH.blk
      have HD := Lib.hid (lsDone_ok w g0 dn (hb.cell 5))
      clear c0 c1 HH hb HA
      go_wp2_with fail
      refine (lrDone_nil _).mono ?_
      rintro e w' ⟨rfl, rfl⟩
      go_wp2_with fail
      refine HD.out.mono ?_
      rintro e w' ⟨rfl, rfl⟩
      cases dn
      all_goals
        go_wp2_with fail
        go_meet
        exact ⟨rfl, rfl⟩
  case rest =>
   obtain ⟨rfl, hwc⟩ := hcut
   subst hwc
   obtain ⟨v0, hv0⟩ : ∃ v, h.cells[0]? = some v := by cases h <;> exact ⟨_, rfl⟩
   have hrow : (h.cells.set 0 (.pointer none)).set 1 (.pointer none) = [.pointer none, .pointer none] := by cases h <;> rfl
   have HRow := Lib.hid hrow
   rw [hv0] at c0
   clear hrow hv0 c1
   go_upto_if 25 with fail
   go_cut [12] (fun _ wx => ∃ (g : Nat) (h0 : LH), h.next rd a pvv i g = h0 ∧ h0.dn = false ∧ h0.Wf ∧ h0.at9 ∧ HAt 139 2 w1 wx gm dv pv gl gh F rows os tt h0.cells (h0.own tt) s)
   case first =>
    cases d0
    · clear c0
      go_wp2_with fail
      go_meet
      exact ⟨0, h, by unfold LH.next; rw [HD0.out]; rfl, HD0.out, HW.out, H9.out, HA.out⟩
    · have HHd := Lib.hid HA.out.drop
      have HNx : Hid (∀ g, h.next rd a pvv i g = if rd = true then .read g a ⟨0, 0, 0, false⟩ else .set g a (clN pvv) (linkN i) ⟨0, 0, false, false, 0⟩) := Lib.hid (fun g => by unfold LH.next; rw [HD0.out]; rfl)
      clear HH HA
      have f0 : w.frozen? ⟨gh, tt * 2, none⟩ = false := HHd.out.frozen 0
      have P1 := (HHd.out.put (f := 0) (by decide) (.pointer none))
      have f1 : (w.setCell ⟨gh, tt * 2, none⟩ (.pointer none)).frozen? ⟨gh, tt * 2 + 1, none⟩ = false := P1.frozen 1
      obtain ⟨vv1, hv1⟩ : ∃ v, (h.cells.set 0 (.pointer none))[1]? = some v := by cases h <;> exact ⟨_, rfl⟩
      have g1 : (w.setCell ⟨gh, tt * 2, none⟩ (.pointer none)).cell? ⟨gh, tt * 2 + 1, none⟩ = some vv1 := by rw [← hv1]; exact P1.cell (f := 1) (by decide)
      clear hv1
      have P2 := Lib.hid (P1.put (f := 1) (by decide) (.pointer none))
      clear P1
      go_wp2_with fail
      refine HPk1.out.mono ?_
      rintro e w' ⟨rfl, rfl⟩
      go_upto_if 38 with fail
      have P3 : Hid (HAt 139 2 w1 ((w.setCell ⟨gh, tt * 2, none⟩ (.pointer none)).setCell ⟨gh, tt * 2 + 1, none⟩ (.pointer none)) gm dv pv gl gh F rows os tt [.pointer none, .pointer none] none s) := Lib.hid (by have := P2.out; rw [HRow.out] at this; exact this)
      generalize (w.setCell ⟨gh, tt * 2, none⟩ (.pointer none)).setCell ⟨gh, tt * 2 + 1, none⟩ (.pointer none) = wz at *
      clear P2 f0 f1 g1 c0 HHd
      cases rd
      · go_wp2_with fail
        refine (HLk.out _).mono ?_
        rintro e wa ⟨rfl, xa⟩
        have XA := Lib.hid xa
        clear xa
        go_wp2_with fail
        refine (HNs.out _).mono ?_
        rintro e wb ⟨gp, rfl, lp, bp, xb⟩
        have T := (P3.out.ext XA.out).take xb (q := (gp, 242, LsM.cells ⟨0, 0, false, false, 0⟩ (tt : Int) a (soN lk) (clN pvv))) lp bp
        have j1 : wb.frozen? ⟨gh, tt * 2 + 1, none⟩ = false := T.frozen 1
        have j2 : wb.cell? ⟨gh, tt * 2 + 1, none⟩ = some (.pointer none) := T.cell (f := 1) (by decide)
        have U := Lib.hid (T.put (f := 1) (by decide) (.pointer (some ⟨gp, 0, none⟩)))
        clear T lp bp xb XA
        go_wp2_with fail
        go_meet
        refine ⟨gp, .set gp a (clN pvv) (linkN i) ⟨0, 0, false, false, 0⟩, HNx.out gp, rfl, Or.inl rfl, HAa.out, ?_⟩
        show HAt 139 2 w1 _ gm dv pv gl gh F rows os tt [.pointer none, .pointer (some ⟨gp, 0, none⟩)] (some (gp, 242, LsM.cells ⟨0, 0, false, false, 0⟩ (tt : Int) a (soN (linkN i)) (clN pvv))) s
        rw [HLkE.out]
        exact U.out
      · go_wp2_with fail
        refine (HNr.out _).mono ?_
        rintro e wb ⟨gp, rfl, lp, bp, xb⟩
        have T := P3.out.take xb (q := (gp, 240, LrM.cells ⟨0, 0, 0, false⟩ (tt : Int) a)) lp bp
        have j1 : wb.frozen? ⟨gh, tt * 2, none⟩ = false := T.frozen 0
        have j2 : wb.cell? ⟨gh, tt * 2, none⟩ = some (.pointer none) := T.cell (f := 0) (by decide)
        have U := Lib.hid (T.put (f := 0) (by decide) (.pointer (some ⟨gp, 0, none⟩)))
        clear T lp bp xb
        go_wp2_with fail
        go_meet
        exact ⟨gp, .read gp a ⟨0, 0, 0, false⟩, HNx.out gp, rfl, ⟨⟨Or.inl rfl, ⟨Int.le_refl 0, by show (0 : Int) < _; decide⟩⟩, fun _ c => absurd rfl c⟩, HAa.out, U.out⟩
   case rest =>
     obtain ⟨g, h0, e0, hd, hw, h9, H0⟩ := hcut
     generalize wc = w9 at *
     clear HA HW H9 HNr HNs HPk1 HLk c0 HH HRow HD0
     have E0 := Lib.hid e0
     have H0h := Lib.hid H0
     have c0 : w9.cell? ⟨gh, tt * 2, none⟩ = h0.cells[0]? := H0.cell (f := 0) (by decide)
     have c1 : w9.cell? ⟨gh, tt * 2 + 1, none⟩ = h0.cells[1]? := H0.cell (f := 1) (by decide)
     clear e0
     cases h0 with
     | off => cases hd
     | read g0 a0 x0 =>
       have z0 : w9.cell? ⟨gh, tt * 2, none⟩ = some (.pointer (some ⟨g0, 0, none⟩)) := c0
       have hx : x0.Wf := hw.1
       have e9 : 20 ≤ a0 ∧ a0 < 28 := h9
       have ho : (g0, 240, x0.cells tt a0) = (g0, 240, x0.cells tt a0) := rfl
       have hb : Blk w9 g0 240 (x0.cells tt a0) := H0.blk
       have own := H0.own
       have hst := lrStep_ok (i := k) H0.m.m HC.out hk HFi.out (show I64 a0 from ⟨by omega, by omega⟩) hx hb (Or.inr (Or.inr ⟨tt, _, own, rfl⟩)) (H0.m.a tt _ own).2.2.2
       have HSt := Lib.hid hst
       clear c0 c1 hw h9 hx e9 ho hb own hst H0 hd
       go_wp2_with fail
       refine HSt.out.mono ?_
       rintro e w5 ⟨rfl, m5, b5, k5⟩
       have H5 := Lib.hid (H0h.out.step m5 b5 k5)
       clear m5 b5 k5 HSt
       go_wp2_with fail
       refine bodyPost_ret (results_none rfl _ _ _) rfl ?_
       exact ⟨⟨_, rfl⟩, g, by rw [E0.out]; exact H5.out⟩
     | set g0 a0 o0 n0 x0 =>
       have z0 : w9.cell? ⟨gh, tt * 2, none⟩ = some (.pointer none) := c0
       have z1 : w9.cell? ⟨gh, tt * 2 + 1, none⟩ = some (.pointer (some ⟨g0, 0, none⟩)) := c1
       have e9 : 20 ≤ a0 ∧ a0 < 28 := h9
       have hb : Blk w9 g0 242 (x0.cells tt a0 (soN n0) o0) := H0.blk
       have own := H0.own
       have hst := lsStep_ok (i := k) H0.m.m HC.out hk HFi.out (show I64 a0 from ⟨by omega, by omega⟩) hw (soN_rng n0) hb (Or.inr (Or.inr ⟨tt, _, own, rfl⟩)) (H0.m.a tt _ own).2.2.2
       have HSt := Lib.hid hst
       clear c0 c1 hw h9 e9 hb own hst H0 hd
       go_wp2_with fail
       refine HSt.out.mono ?_
       rintro e w5 ⟨rfl, m5, b5, k5⟩
       have H5 := Lib.hid (H0h.out.step m5 b5 k5)
       clear m5 b5 k5 HSt
       go_wp2_with fail
       refine bodyPost_end (results_none rfl _ _ _) rfl ?_
       exact ⟨⟨_, rfl⟩, g, by rw [E0.out]; exact H5.out⟩
end
end Go.Proofs.YtndplpfbohigpaaGreat
