/- limekilnlaw07.Same: a memory and the document's that hold one state are the same. Conditions: those that each theorem names. -/
import Derived.Test.YtbicloceaddinaaGreatKMemB
namespace Go.Proofs.YtbicloceaddinaaGreat
open Go.ChangeShapes Go.WideShapes Go.ChangeAt Go.RowKit
set_option linter.unusedVariables false
set_option maxRecDepth 100000 in
set_option maxHeartbeats 4000000 in
theorem same7_ok {Q : Nat → Prop} {wb w0 w : World} {gm : Nat} {dv pv : Value} {s : MSt} {B g : Nat} {R : RefB} {rv : Value} (h : IsMem Q wb w0 w gm dv pv s) (hr : IsRMem B w g R rv s) (ok : Sound s.dev) :
    Calls Tryz.prog 14 #[.pointer (some ⟨gm, 0, none⟩), .pointer (some ⟨g, 0, none⟩)] w (fun e w' => e = .returned (.bool true) ∧ Ext w w') := by
  have n0 := ok.n0
  have n1 := ok.n1
  obtain ⟨gk, ck, gs, cs, gf, cf, e1, e2, e3⟩ := hr.dev.sh ok.n0 ok.T0
  obtain ⟨L, hL⟩ : ∃ L, s.dev.n * 8 = L := ⟨_, rfl⟩
  have HC0 : ∀ W, Ext w W → W.cell? ⟨g, 0, none⟩ = some (.pointer (some ⟨R.g, 0, none⟩)) ∧ W.cell? ⟨g, 2, none⟩ = some (.int .i64 s.clock) ∧ W.cell? ⟨g, 3, none⟩ = some (.int .i64 s.bad) ∧ W.cell? ⟨g, 4, none⟩ = some (.int .i64 s.last.k) ∧ W.cell? ⟨g, 5, none⟩ = some (.int .i64 s.last.t) ∧ W.cell? ⟨g, 6, none⟩ = some (.int .i64 s.last.a) ∧ W.cell? ⟨g, 7, none⟩ = some (.int .u64 s.last.o) ∧ W.cell? ⟨g, 8, none⟩ = some (.int .u64 s.last.n) ∧ W.cell? ⟨g, 9, none⟩ = some (.bool s.last.d) ∧ W.cell? ⟨R.g, 0, none⟩ = some (.slice (some ⟨gk, 0, none⟩) L ck) ∧ W.cell? ⟨R.g, 1, none⟩ = some (.slice (some ⟨gs, 0, none⟩) L cs) := fun W x => by
    have hb := (hr.ext x).blk
    have hd := (hr.ext x).dev.is.blk
    refine ⟨hb.cell 0, hb.cell 2, hb.cell 3, hb.cell 4, hb.cell 5, hb.cell 6, hb.cell 7, hb.cell 8, hb.cell 9, ?_, ?_⟩
    · rw [← hL, ← e1]; exact hd.cell 0
    · rw [← hL, ← e2]; exact hd.cell 1
  have HC := Lib.hid HC0
  have HI0 : ∀ W, Ext w W → Ints W .u64 (some ⟨gk, 0, none⟩) s.dev.kept ∧ Ints W .u64 (some ⟨gs, 0, none⟩) s.dev.seen := fun W x => by
    have hb := (hr.ext x).dev.is
    obtain ⟨A, c, hv, hI, _⟩ := hb.kept.form
    obtain ⟨A', c', hv', hI', _⟩ := hb.seen.form
    rw [e1] at hv
    rw [e2] at hv'
    injection hv with q1
    injection hv' with q2
    rw [q1, q2]
    exact ⟨hI, hI'⟩
  have HI := Lib.hid HI0
  have HLk : Hid (s.dev.kept.length = L) := Lib.hid (by rw [← hL]; exact hr.dev.lk)
  have HLs : Hid (s.dev.seen.length = L) := Lib.hid (by rw [← hL]; exact hr.dev.ls)
  have HCl := Lib.hid (fun (W : World) (x : Ext w W) => memClock_ok (h.ext x))
  have HBa := Lib.hid (fun (W : World) (x : Ext w W) => memBad_ok (h.ext x))
  have HLa := Lib.hid (fun (W : World) (x : Ext w W) => memLast_ok (h.ext x))
  have HDe := Lib.hid (fun (W : World) (x : Ext w W) => memDevice_ok (h.ext x))
  have HKp : Hid (∀ W, Ext w W → Calls Tryz.prog 81 #[dv] W fun e w' => Words W L s.dev.kept e w') := Lib.hid (fun W x => ((h.ext x).dev.keptA L hL).mono fun e w' hh => hh.1)
  have HSn : Hid (∀ W, Ext w W → Calls Tryz.prog 52 #[dv] W fun e w' => Words W L s.dev.seen e w') := Lib.hid (fun W x => ((h.ext x).dev.seenA L hL).mono fun e w' hh => hh.1)
  have HPk := Lib.hid (fun (W : World) (x : Ext w W) (a : Int) => (h.ext x).peek a)
  have HRf := Lib.hid hr
  have lp := hr.lp
  obtain ⟨A, c, e, _, _⟩ := hr.pas.form
  obtain ⟨N, hN⟩ : ∃ N, s.pas.length = N := ⟨_, rfl⟩
  rw [hN] at e lp
  have HN := Lib.hid hN
  have HE := Lib.hid e
  have HG : Hid (∀ W, Ext w W → W.cell? ⟨g, 1, none⟩ = some (.slice A N c)) := Lib.hid (fun W x => by rw [← e]; exact (hr.ext x).blk.cell 1)
  have hL1 : L ≤ 2097152 := by omega
  clear h hr ok e1 e2 e3 HC0 HI0 hL hN e
  obtain ⟨rg, hg⟩ : ∃ rg, R.g = rg := ⟨_, rfl⟩
  rw [hg] at HC
  have HGG := Lib.hid hg
  clear hg
  generalize hcl : s.clock = clk at *
  generalize hba : s.bad = bad at *
  generalize hla : s.last = last at *
  clear hcl hba hla
  obtain ⟨lk, lt, la, lo, ln, ld⟩ := last
  simp only at HC HLa
  have heq := fun W => eqa_yes lk lt la lo ln ld W
  have xt : Ext w w.drew := (Ext.refl w).drew
  go_enter Tryz.func14, Tryz.ntmps14
  go_wp2_with fail
  go_cut [60] (fun s60 wx => s60 = .bool false ∧ Ext w wx)
  case first =>
    go_region_held3 (fun W => W.cell? ⟨g, 0, none⟩ = some (.pointer (some ⟨rg, 0, none⟩)) ∧ W.cell? ⟨g, 2, none⟩ = some (.int .i64 clk) ∧ W.cell? ⟨g, 3, none⟩ = some (.int .i64 bad) ∧ W.cell? ⟨g, 4, none⟩ = some (.int .i64 lk) ∧ W.cell? ⟨g, 5, none⟩ = some (.int .i64 lt) ∧ W.cell? ⟨g, 6, none⟩ = some (.int .i64 la) ∧ W.cell? ⟨g, 7, none⟩ = some (.int .u64 lo) ∧ W.cell? ⟨g, 8, none⟩ = some (.int .u64 ln) ∧ W.cell? ⟨g, 9, none⟩ = some (.bool ld) ∧ W.cell? ⟨rg, 0, none⟩ = some (.slice (some ⟨gk, 0, none⟩) L ck) ∧ W.cell? ⟨rg, 1, none⟩ = some (.slice (some ⟨gs, 0, none⟩) L cs)) (first | exact HC.out _ xt | go_keep) (first
      | (go_at_call 77; refine (HCl.out _ xt).mono ?_; rintro e w1 ⟨rfl, rfl⟩)
      | (go_at_call 78; refine (HBa.out _ xt).mono ?_; rintro e w1 ⟨rfl, rfl⟩)
      | (go_at_call 51; refine (HDe.out _ xt).mono ?_; rintro e w1 ⟨rfl, rfl⟩)
      | (go_at_call 79; refine (HLa.out _ xt).mono ?_; rintro e w14 ⟨rfl, x14⟩; replace xt := xt.trans x14; try (replace I12h := Lib.hid (I12h.out.ext x14)); try (replace I10h := Lib.hid (I10h.out.ext x14)); clear x14)
      | (go_at_call 81; refine (HKp.out _ xt).mono ?_; rintro e w12 ⟨g12, c12, rfl, k12, j12, I12, x12, l12, r12⟩; replace xt := xt.trans x12; have I12h := Lib.hid I12; try (replace I10h := Lib.hid (I10h.out.ext x12)); clear I12 x12 l12 r12)
      | (go_at_call 52; refine (HSn.out _ xt).mono ?_; rintro e w10 ⟨g10, c10, rfl, k10, j10, I10, x10, l10, r10⟩; replace xt := xt.trans x10; have I10h := Lib.hid I10; try (replace I12h := Lib.hid (I12h.out.ext x10)); clear I10 x10 l10 r10)
      | (go_at_call 80; refine (same_n _ _ L L _ _ s.dev.kept s.dev.kept true _ HLk.out HLk.out (by omega) (by simp) I12h.out (HI.out _ xt).1).mono ?_; rintro e w13 ⟨rfl, x13⟩; replace xt := xt.trans x13; try (replace I10h := Lib.hid (I10h.out.ext x13)); clear x13)
      | (go_at_call 80; refine (same_n _ _ L L _ _ s.dev.seen s.dev.seen true _ HLs.out HLs.out (by omega) (by simp) I10h.out (HI.out _ xt).2).mono ?_; rintro e w11 ⟨rfl, x11⟩; replace xt := xt.trans x11; try (replace I12h := Lib.hid (I12h.out.ext x11)); clear x11))
    all_goals
      go_wp2_with fail
      go_meet
      exact ⟨rfl, xt⟩
  case rest =>
    obtain ⟨rfl, x1⟩ := hcut
    clear xt HKp HSn HCl HBa HLa HDe HI HLk HLs heq
    generalize wc = w1 at *
    have X1 := Lib.hid x1
    clear x1
    go_wp2_with fail
    go_loopw [5] (fun i wr => ∃ q : Nat, q ≤ N ∧ i = .int .i64 q ∧ Ext w wr) (fun i _ => N - (intOf i).toNat)
    case atStart => exact ⟨0, by omega, rfl, X1.out⟩
    case round =>
      clear X1
      obtain ⟨q, hq, rfl, xq⟩ := hrel
      have c1 := HG.out wr xq
      have XQ := Lib.hid xq
      clear xq
      by_cases hlt : q < N
      · have v1 : decide (q < N) = true := by simp; omega
        have v2 : (q : Int) < (N : Int) := by omega
        have v3 : (0 : Int) ≤ (q : Int) := by omega
        have hrow : RowN wr B 45 1 .u64 (.slice A N c) N s.pas := by
          have := RowN.of_row (HRf.out.ext XQ.out).pas
          rw [HE.out, HN.out] at this
          exact this
        obtain ⟨gp, c', e', _, _, _, hgl⟩ := hrow.at_ (by omega)
        injection e' with e1 e2 e3
        subst e1 e3
        have cw : wr.cell? ⟨gp, q, none⟩ = some (.int .u64 (s.pas.getD q 0)) := RowN.cell hrow (by omega)
        have hp := HPk.out wr XQ.out (-1 - (q : Int)) (by omega) (by omega)
        have p1 : peekV s (-1 - (q : Int)) = s.pas.getD q 0 := by
          unfold peekV
          rw [if_neg (by omega), show (-1 - (-1 - (q : Int))).toNat = q by omega]
        have p2 : peekB s (-1 - (q : Int)) = true := by
          unfold peekB
          rw [if_neg (by omega), HN.out]
          simp; omega
        rw [p1, p2] at hp
        have HP := Lib.hid hp
        generalize s.pas.getD q 0 = x at cw HP
        clear hrow hgl e2 hp p1 p2
        go_wp2_with fail
        refine HP.out.mono ?_
        rintro e w' ⟨rfl, rfl⟩
        go_wp2_with fail
        go_roundw
        case rel => exact ⟨q + 1, by omega, by go_num, by first | exact XQ.out | exact XQ.out.drew⟩
        case measure => simp [intOf]; omega
      · have v1 : decide (q < N) = false := by simp; omega
        have v2 : ¬ (q : Int) < (N : Int) := by omega
        go_wp2_with fail
        go_ret
        exact ⟨rfl, XQ.out⟩
end Go.Proofs.YtbicloceaddinaaGreat


/- Acts of layer 7 that came in as a slice; states behind them. Conditions: those that each theorem names. -/
namespace Go.Proofs.YtbicloceaddinaaGreat
open Go.ChangeShapes Go.WideShapes Go.ChangeAt Go.RowKit Go.Deep
set_option linter.unusedVariables false
structure Act7 where
  k : Int
  t : Int
  a : Int
  z : Int
  x : Int
def Act7.at (y : Act7) (w : World) (p : Addr) : Prop :=
  w.cell? p = some (.int .i64 y.k) ∧ w.cell? ⟨p.block, p.off + 1, none⟩ = some (.int .i64 y.t) ∧ w.cell? ⟨p.block, p.off + 2, none⟩ = some (.int .i64 y.a) ∧ w.cell? ⟨p.block, p.off + 3, none⟩ = some (.int .u64 y.z) ∧ w.cell? ⟨p.block, p.off + 4, none⟩ = some (.int .u64 y.x)
def noAct7 : Act7 := ⟨0, 0, 0, 0, 0⟩
/-- The numbers of an act that came in. -/
def Act7.fit (y : Act7) : Prop := -9223372036854775808 ≤ y.a ∧ y.a < 9223372036854775808 ∧ 0 ≤ y.x ∧ y.x < 18446744073709551616
def Acts7 (w : World) (A : Option Addr) (ys : List Act7) : Prop := 0 < ys.length → ∃ ad, A = some ad ∧ ad.block < w.heap.size ∧ ∀ i, i < ys.length → (ys.getD i noAct7).at w (ad.add (i * 5)) ∧ (ys.getD i noAct7).fit
theorem Acts7.ext {w w' : World} {A : Option Addr} {ys : List Act7} (h : Acts7 w A ys) (x : Ext w w') : Acts7 w' A ys := fun h0 => by
  obtain ⟨ad, rfl, hb, hc⟩ := h h0
  refine ⟨ad, rfl, Nat.lt_of_lt_of_le hb x.size, fun i hi => ?_⟩
  obtain ⟨⟨c0, c1, c2, c3, c4⟩, hx⟩ := hc i hi
  have e : w'.heap[ad.block]? = w.heap[ad.block]? := x.block ad.block hb
  have e' : w'.heap[(ad.add (i * 5)).block]? = w.heap[(ad.add (i * 5)).block]? := by rw [add_block]; exact e
  have kk : ∀ q : Addr, q.block = (ad.add (i * 5)).block → w'.cell? q = w.cell? q := fun q hq => World.cell?_of_block (by rw [hq]; exact e')
  exact ⟨⟨(by refine Eq.trans (kk _ ?_) c0; rfl), (by refine Eq.trans (kk _ ?_) c1; rfl), (by refine Eq.trans (kk _ ?_) c2; rfl), (by refine Eq.trans (kk _ ?_) c3; rfl), (by refine Eq.trans (kk _ ?_) c4; rfl)⟩, hx⟩
section
variable {H : Type} {enc : TypeId × Value → H} {P : Program}
end
/-- What holds of a state behind k acts. -/
structure Well (k : Nat) (s : MSt) : Prop where
  fine : Fine k s.dev
  c0 : 0 ≤ s.clock
  c1 : s.clock ≤ k
  b0 : 0 ≤ s.bad
  b1 : s.bad ≤ k
theorem Well.calm {k : Nat} {s : MSt} (h : Well k s) (hk : k ≤ 1000) : Calm s := ⟨h.c0, by have := h.c1; omega, h.b0, by have := h.b1; omega⟩
theorem Well.note {k : Nat} {s s' : MSt} (h : Well k s) (hc : s'.clock = s.clock) (hb : s'.bad = s.bad) (hf : Fine (k + 1) s'.dev) (x : Acc) (b : Bool) : Well (k + 1) (s'.note x b) := by
  obtain ⟨_, c0, c1, b0, b1⟩ := h
  refine ⟨hf, ?_, ?_, ?_, ?_⟩ <;> unfold MSt.note <;> simp only <;> rw [← hc, ← hb] at * <;> (try split) <;> omega
theorem put_fine {k : Nat} {s : MSt} (h : Fine k s.dev) (hk : k ≤ 90) (a x : Int) : Fine (k + 1) (s.put a x).dev := by
  unfold MSt.put
  split
  · exact h.act hk 5 0 0 a x
  · exact h.up
theorem Well.act {k : Nat} {s : MSt} (h : Well k s) (hk : k ≤ 90) (kd t a z x : Int) : Well (k + 1) (s.act kd t a z x) := by
  have hf := h.fine
  unfold MSt.act
  split
  · unfold MSt.load; split <;> exact h.note rfl rfl hf.up _ _
  split
  · unfold MSt.store; split
    · exact h.note (put_clock s a x).1 (put_clock s a x).2 (put_fine hf hk a x) _ _
    · exact h.note rfl rfl hf.up _ _
  split
  · unfold MSt.swap; split
    · split
      · exact h.note (put_clock s a x).1 (put_clock s a x).2 (put_fine hf hk a x) _ _
      · exact h.note rfl rfl hf.up _ _
    · exact h.note rfl rfl hf.up _ _
  split
  · exact h.note (s' := s.withDev (s.dev.flush t (lineNo a))) rfl rfl (hf.act hk 0 t (lineNo a) 0 0) _ _
  split
  · exact h.note (s' := s.withDev (s.dev.fence t)) rfl rfl (hf.act hk 1 t 0 0 0) _ _
  split
  · exact ⟨hf.act hk 2 0 a 0 0, h.c0, by have := h.c1; show s.clock ≤ _; omega, h.b0, by have := h.b1; show s.bad ≤ _; omega⟩
  · exact ⟨hf.act hk 3 0 0 0 0, h.c0, by have := h.c1; show s.clock ≤ _; omega, h.b0, by have := h.b1; show s.bad ≤ _; omega⟩
section
variable {w0 w w' : World} {gm g : Nat} {dv pv rv : Value} {R : RefB} {s : MSt}
theorem IsRMem.heldQ {B : Nat} (h : IsRMem B w g R rv s) (hk : ∀ b, rfoot g R rv b → w'.heap[b]? = w.heap[b]?) : IsRMem B w' g R rv s :=
  ⟨h.bg, (hk _ (Or.inl rfl)).trans h.blk, (RowN.kept (RowN.of_row h.pas) (fun b hb => hk b (Or.inr (Or.inl hb)))).row, h.dev.heldQ (fun b hb => hk b (Or.inr (Or.inr hb))), h.pk, h.lp⟩
theorem BothAt.ext (h : BothAt w0 w gm dv pv g R rv s) (x : Ext w w') : BothAt w0 w' gm dv pv g R rv s :=
  ⟨h.mem.fr (S := fun _ => False) (h.mem.lt.1.trans x) (Fr.of_ext x) (fun _ hs => hs.elim) (fun _ _ => rfl), h.ref.ext x⟩
theorem BothAt.sound (h : BothAt w0 w gm dv pv g R rv s) : Sound s.dev := h.mem.dev.sound
end
end Go.Proofs.YtbicloceaddinaaGreat

