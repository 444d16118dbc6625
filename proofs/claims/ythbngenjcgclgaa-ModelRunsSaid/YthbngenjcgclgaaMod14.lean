/- Layer 8: model.Run, of operations of which each does what is known of it. Conditions: those that each theorem names. -/
import Derived.Test.YthbngenjcgclgaaMod13
namespace Go.Proofs.Ythbngenjcgclgaa
open Go.ChangeShapes Go.WideShapes Go.ChangeAt Go.RowKit
set_option linter.unusedVariables false
theorem Parts.view {w : World} {B : Nat} {qv sv mv : Value} {st : Sta} (h : Parts w B qv sv mv st) : ∃ (A0 A1 A2 : Option Addr) (c0 c1 c2 : Nat), qv = .slice A0 st.q.length c0 ∧ sv = .slice A1 st.s.length c1 ∧ mv = .slice A2 st.m.length c2 ∧ StAt w A0 A1 A2 st := by
  obtain ⟨A0, c0, e0, _, _, h0⟩ := h.q.form
  obtain ⟨A1, c1, e1, h1, _⟩ := h.s.form
  obtain ⟨A2, c2, e2, _, _, h2⟩ := PRow.form h.m
  exact ⟨A0, A1, A2, c0, c1, c2, e0, e1, e2, ⟨h0, h1, h2⟩⟩
/-- What Run leaves. -/
def RunPost (w : World) (st' : Sta) (rs : List Rs) (e : Ending) (w' : World) : Prop := ∃ (B0 B1 B2 R : Option Addr) (d0 d1 d2 d : Nat), e = .returned (.tuple #[.agg #[.slice B0 st'.q.length d0, .slice B1 st'.s.length d1, .slice B2 st'.m.length d2], .slice R rs.length d]) ∧ StAt w' B0 B1 B2 st' ∧ RAt w' R rs ∧ Ext w w'
def upto (rs : Nat → Rs) (k : Nat) : List Rs := (List.range k).map rs
theorem upto_len (rs : Nat → Rs) (k : Nat) : (upto rs k).length = k := by simp [upto]
theorem upto_succ (rs : Nat → Rs) (k : Nat) : upto rs (k + 1) = upto rs k ++ [rs k] := by simp [upto, List.range_succ]
/-- What holds in Run's loop: a operations are done, b results are there. -/
structure RunAt (w : World) (gs b1 : Nat) (st : Nat → Sta) (rs : Nat → Rs) (a b : Nat) (qv sv mv v : Value) (wr : World) : Prop where
  own : Own wr w.heap.size gs qv sv mv (st a)
  row : RRow wr w.heap.size v (upto rs b)
  ext : Ext w wr
  blk : Blk wr b1 25 [.slice none 0 0, .slice none 0 0, .slice none 0 0]
theorem owns_keep {w w' : World} {B : Nat} {e : TypeId} {size n : Nat} {v : Value} {xs : List Value} (h : w.ownsRow B e size v n xs) (hk : ∀ g, v.ownBlock = some g → w'.heap[g]? = w.heap[g]?) : w'.ownsRow B e size v n xs := by
  refine ⟨h.1, ?_⟩
  rcases h.2 with h2 | ⟨g, cap, cur, hv, hg, hh, r⟩
  · exact Or.inl h2
  · refine Or.inr ⟨g, cap, cur, hv, hg, ?_, r⟩
    rw [hk g (by rw [hv]; rfl)]; exact hh
theorem owns_low {w : World} {B B' : Nat} {e : TypeId} {size n : Nat} {v : Value} {xs : List Value} (h : w.ownsRow B e size v n xs) (hB : B' ≤ B) : w.ownsRow B' e size v n xs := by
  refine ⟨h.1, ?_⟩
  rcases h.2 with h2 | ⟨g, cap, cur, hv, hg, r⟩
  · exact Or.inl h2
  · exact Or.inr ⟨g, cap, cur, hv, Nat.le_trans hB hg, r⟩
theorem cells_fr {S : Nat → Prop} {w w' : World} {ad : Addr} {j : Nat} (f : Fr S w w') (hb : ad.block < w.heap.size) (hS : ¬ S ad.block) : ∀ q : Addr, q.block = (ad.add j).block → w'.cell? q = w.cell? q := fun q hq => World.cell?_of_block (by rw [hq, add_block]; exact f.block ad.block hb hS)
theorem PAt.fr {S : Nat → Prop} {w w' : World} {A : Option Addr} {ps : List Pr} (h : PAt w A ps) (x : Fr S w w') (hS : ∀ ad, A = some ad → ¬ S ad.block) : PAt w' A ps := fun h0 => by
  obtain ⟨ad, rfl, hb, hc⟩ := h h0
  refine ⟨ad, rfl, Nat.lt_of_lt_of_le hb x.size, fun i hi => ?_⟩
  obtain ⟨c0, c1⟩ := hc i hi
  have kk := cells_fr (j := i * 2) x hb (hS ad rfl)
  exact ⟨(by refine Eq.trans (kk _ ?_) c0; rfl), (by refine Eq.trans (kk _ ?_) c1; rfl)⟩
theorem RAt.fr {S : Nat → Prop} {w w' : World} {A : Option Addr} {ps : List Rs} (h : RAt w A ps) (x : Fr S w w') (hS : ∀ ad, A = some ad → ¬ S ad.block) : RAt w' A ps := fun h0 => by
  obtain ⟨g, rfl, hb, hc⟩ := h h0
  refine ⟨g, rfl, Nat.lt_of_lt_of_le hb x.size, fun i hi => ?_⟩
  obtain ⟨c0, c1⟩ := hc i hi
  have e := x.block g hb (hS _ rfl)
  exact ⟨(World.cell?_of_block e).trans c0, (World.cell?_of_block e).trans c1⟩
theorem own_some {A : Option Addr} {n c : Nat} {ad : Addr} (e : A = some ad) : (Value.slice A n c).ownBlock = some ad.block := by subst e; rfl
section
variable {w wr w2 w3 : World} {gs b1 a b a' : Nat} {st : Nat → Sta} {rs : Nat → Rs} {qv sv mv v v' qv' sv' mv' : Value}
theorem RunAt.more (h : RunAt w gs b1 st rs a b qv sv mv v wr) {W : World} (x : Ext wr W) : RunAt w gs b1 st rs a b qv sv mv v W :=
  ⟨h.own.ext x, owns_keep h.row (fun g hg => x.block g (typed_row h.row g hg).2.1), h.ext.trans x, h.blk.ext x⟩
theorem RunAt.did (h : RunAt w gs b1 st rs a b qv sv mv v wr) (hne : b1 ≠ gs) (d : Did w wr gs qv sv mv (st a') w2 qv' sv' mv') : RunAt w gs b1 st rs a' b qv' sv' mv' v w2 := by
  refine ⟨d.own, owns_keep h.row (fun g hg => ?_), d.ext, (d.fr b1 h.blk.lt hne (h.own.parts.apart_of h.blk (by decide) (by decide))).1.trans h.blk⟩
  have t := typed_row h.row
  refine (d.fr g (t g hg).2.1 (fun e => t.ne_blk h.own.blk (by decide) (by rw [← e]; exact hg)) ⟨fun e => h.own.parts.q.typed.ne t (by decide) g e hg, fun e => (typed_row h.own.parts.s).ne t (by decide) g e hg, fun e => (typed_row h.own.parts.m).ne t (by decide) g e hg⟩).1
theorem RunAt.app (h : RunAt w gs b1 st rs a b qv sv mv v wr) (row : RRow w3 w.heap.size v' (upto rs b ++ [rs b])) (ext : Ext w w3) (fr : ∀ g, g < wr.heap.size → v.ownBlock ≠ some g → w3.heap[g]? = wr.heap[g]?) : RunAt w gs b1 st rs a (b + 1) qv sv mv v' w3 := by
  have t := typed_row h.row
  have p := h.own.parts
  refine ⟨⟨?_, h.own.low, p.kept (fun g hg => ?_)⟩, by rw [upto_succ]; exact row, ext, ?_⟩
  · exact (fr gs h.own.blk.lt (t.ne_blk h.own.blk (by decide))).trans h.own.blk
  · refine fr g (p.lt g hg).2 (fun e => ?_)
    rcases hg with hg | hg | hg
    · exact p.q.typed.ne t (by decide) g hg e
    · exact (typed_row p.s).ne t (by decide) g hg e
    · exact (typed_row p.m).ne t (by decide) g hg e
  · exact (fr b1 h.blk.lt (t.ne_blk h.blk (by decide))).trans h.blk
end
set_option maxRecDepth 100000 in
set_option maxHeartbeats 2000000 in
theorem run_of (w : World) (A0 A1 A2 A : Option Addr) (n0 n1 n2 c0 c1 c2 n c : Nat) (ops : List O3) (st : Nat → Sta) (rs : Nat → Rs) (hl : ops.length = n) (hn : n ≤ 1000) (ho : OAt w A ops)
    (HCl : ∀ W, Ext w W → Calls Try.prog 17 #[.agg #[.slice A0 n0 c0, .slice A1 n1 c1, .slice A2 n2 c2]] W fun e w' => ∃ qv sv mv, e = .returned (.agg #[qv, sv, mv]) ∧ Ext W w' ∧ Parts w' W.heap.size qv sv mv (st 0))
    (HD : ∀ k, k < n → ∀ (W : World) (gs : Nat) (qv sv mv : Value), Ext w W → Own W w.heap.size gs qv sv mv (st k) → Calls Try.prog 18 #[.pointer (some ⟨gs, 0, none⟩), .agg #[.int .i64 (ops.getD k (0, 0, 0)).1, .int .u32 (ops.getD k (0, 0, 0)).2.1, .int .u32 (ops.getD k (0, 0, 0)).2.2]] W fun e w' => e = .returned (.agg #[.int .i64 (rs k).1, .int .u32 (rs k).2]) ∧ DidTo w W gs qv sv mv (st (k + 1)) w') :
    Calls Try.prog 8 #[.agg #[.slice A0 n0 c0, .slice A1 n1 c1, .slice A2 n2 c2], .slice A n c] w (RunPost w (st n) (upto rs n)) := by
  have HO := Lib.hid ho
  have HL := Lib.hid hl
  have HDD := Lib.hid HD
  have HC := Lib.hid HCl
  have hmk := fun W => make_res n (by omega) W
  clear ho hl HD HCl
  have l1 := Blk.new (w.alloc (.cells #[.slice A0 n0 c0, .slice A1 n1 c1, .slice A2 n2 c2] 25)) 25 [.slice none 0 0, .slice none 0 0, .slice none 0 0]
  rw [show (w.alloc (.cells #[.slice A0 n0 c0, .slice A1 n1 c1, .slice A2 n2 c2] 25)).heap.size = w.heap.size + 1 by simp] at l1
  have L1 := Lib.hid l1
  have X0 := Lib.hid (((Ext.refl w).alloc (.cells #[.slice A0 n0 c0, .slice A1 n1 c1, .slice A2 n2 c2] 25)).alloc (.cells #[.slice none 0 0, .slice none 0 0, .slice none 0 0] 25))
  clear l1
  go_enter Try.func8, Try.ntmps8
  go_wp2_with fail
  refine (HC.out _ X0.out).mono ?_
  rintro e w1 ⟨qv, sv, mv, rfl, x1, p1⟩
  have L2 := Lib.hid (L1.out.ext x1)
  have X1 := Lib.hid (X0.out.trans x1)
  have P1 := Lib.hid (p1.mono (X0.out.size))
  obtain ⟨q0, q1, q2, d0, d1, d2, rfl, rfl, rfl, -⟩ := P1.out.view
  clear x1 p1 L1 X0
  generalize (st 0).q.length = m0 at *
  generalize (st 0).s.length = m1 at *
  generalize (st 0).m.length = m2 at *
  have hb1 : w.heap.size + 1 < w1.heap.size := L2.out.lt
  go_wp2_with fail
  go_loopw [17, 7] (fun i v wr => ∃ (k : Nat) (qv sv mv : Value), k ≤ n ∧ i = .int .i64 k ∧ RunAt w w1.heap.size (w.heap.size + 1) st rs k k qv sv mv v wr) (fun i _ _ => n - (intOf i).toNat)
  case atStart =>
    refine ⟨0, .slice q0 m0 d0, .slice q1 m1 d1, .slice q2 m2 d2, Nat.zero_le _, rfl, ?_⟩
    have e1 := (Ext.refl w1).alloc (.cells #[.slice q0 m0 d0, .slice q1 m1 d1, .slice q2 m2 d2] 25)
    have e2 := e1.alloc (.cells (madeCells #[.int .i64 0, .int .u32 0] (n * 2)) 34)
    have hb := (Blk.new w1 25 [.slice q0 m0 d0, .slice q1 m1 d1, .slice q2 m2 d2]).ext ((Ext.refl _).alloc (.cells (madeCells #[.int .i64 0, .int .u32 0] (n * 2)) 34))
    have hr := RRow.made (w1.alloc (.cells #[.slice q0 m0 d0, .slice q1 m1 d1, .slice q2 m2 d2] 25)) n (by omega)
    rw [show (w1.alloc (.cells #[.slice q0 m0 d0, .slice q1 m1 d1, .slice q2 m2 d2] 25)).heap.size = w1.heap.size + 1 by simp] at hr
    exact ⟨⟨hb, X1.out.size, P1.out.ext e2⟩, owns_low hr (by have := X1.out.size; omega), X1.out.trans e2, L2.out.ext e2⟩
  case round =>
    obtain ⟨k, qv, sv, mv, hk, rfl, ra⟩ := hrel
    have RA := Lib.hid ra
    clear ra
    by_cases hlt : k < n
    · have v1 : decide (k < n) = true := by simp; omega
      have HDk := Lib.hid (HDD.out k hlt)
      obtain ⟨ad, hA, hbl, hc⟩ := (HO.out.ext RA.out.ext) (by rw [HL.out]; omega)
      obtain ⟨y0, y1, y2⟩ := hc k (by rw [HL.out]; exact hlt)
      obtain ⟨r, hr⟩ : ∃ r, rs k = r := ⟨_, rfl⟩
      obtain ⟨o, hop⟩ : ∃ o, ops.getD k (0, 0, 0) = o := ⟨_, rfl⟩
      rw [hr, hop] at HDk
      rw [hop] at y0 y1 y2
      obtain ⟨o0, o1, o2⟩ := o
      obtain ⟨r0, r1⟩ := r
      simp only at HDk y0 y1 y2
      have HR := Lib.hid hr
      clear hc hr hop
      subst hA
      have hlen : Hid ((upto rs k).length < 1000000000) := Lib.hid (by rw [upto_len]; omega)
      have RB := Lib.hid (RA.out.more ((Ext.refl wr).alloc (.cells #[.int .i64 o0, .int .u32 o1, .int .u32 o2] 38)))
      go_wp2_with fail
      refine (HDk.out _ w1.heap.size qv sv mv RB.out.ext RB.out.own).mono ?_
      rintro e w2 ⟨rfl, qv', sv', mv', d⟩
      have RC := Lib.hid (RB.out.did (by omega) d)
      clear d y0 y1 y2 RB RA HDk
      go_wp2_with ((at_builtin; refine Hid.out ?_))
      refine Lib.hid ?_
      refine wpList_appR rfl _ _ 29 rfl Try.underlying29 w w2 _ (upto rs k) r0 r1 (by rfl) RC.out.row RC.out.ext (by rfl) hlen.out ?_
      intro v' w3 h1 h2 h3 h4
      have RD := Lib.hid (RC.out.app (by rw [HR.out]; exact h1) h2 (fun g hg hn => (h3 g hg hn).1))
      clear h1 h2 h3 h4
      go_wp2_with fail
      go_roundw
      case rel => exact ⟨k + 1, qv', sv', mv', by omega, by go_num, RD.out⟩
      case measure => simp [intOf]; omega
    · have v1 : decide (k < n) = false := by simp; omega
      obtain rfl : k = n := by omega
      obtain ⟨u0, u1, u2, f0, f1, f2, rfl, rfl, rfl, sa⟩ := RA.out.own.parts.view
      obtain ⟨R, d, rfl, _, _, ra⟩ := RA.out.row.form
      have SA := Lib.hid sa
      have RT := Lib.hid ra
      clear sa ra
      obtain ⟨e0, h0⟩ : ∃ e0, (st k).q.length = e0 := ⟨_, rfl⟩
      obtain ⟨e1, h1⟩ : ∃ e1, (st k).s.length = e1 := ⟨_, rfl⟩
      obtain ⟨e2, h2⟩ : ∃ e2, (st k).m.length = e2 := ⟨_, rfl⟩
      rw [h0, h1, h2] at RA
      have HE0 := Lib.hid h0
      have HE1 := Lib.hid h1
      have HE2 := Lib.hid h2
      clear h0 h1 h2
      have hb := RA.out.own.blk
      have k0 : wr.cell? ⟨w1.heap.size, 0, none⟩ = some (.slice u0 e0 f0) := hb.cell 0
      have k1 : wr.cell? ⟨w1.heap.size, 1, none⟩ = some (.slice u1 e1 f1) := hb.cell 1
      have k2 : wr.cell? ⟨w1.heap.size, 2, none⟩ = some (.slice u2 e2 f2) := hb.cell 2
      have hb' := RA.out.blk
      have j0 : wr.cell? ⟨w.heap.size + 1, 0, none⟩ = some (.slice none 0 0) := hb'.cell 0
      have j1 : wr.cell? ⟨w.heap.size + 1, 1, none⟩ = some (.slice none 0 0) := hb'.cell 1
      have j2 : wr.cell? ⟨w.heap.size + 1, 2, none⟩ = some (.slice none 0 0) := hb'.cell 2
      have z0 : wr.frozen? ⟨w.heap.size + 1, 0, none⟩ = false := hb'.frozen 0
      have z1 : wr.frozen? ⟨w.heap.size + 1, 1, none⟩ = false := hb'.frozen 1
      have z2 : wr.frozen? ⟨w.heap.size + 1, 2, none⟩ = false := hb'.frozen 2
      have HBK := Lib.hid hb'
      clear hb hb'
      go_wp2_with fail
      have fz : Fr (fun q => q = w.heap.size + 1) wr (((wr.setCell ⟨w.heap.size + 1, 0, none⟩ (.slice u0 e0 f0)).setCell ⟨w.heap.size + 1, 1, none⟩ (.slice u1 e1 f1)).setCell ⟨w.heap.size + 1, 2, none⟩ (.slice u2 e2 f2)) := Fr.setCell (p := ⟨w.heap.size + 1, 2, none⟩) (Fr.setCell (p := ⟨w.heap.size + 1, 1, none⟩) (Fr.setCell (p := ⟨w.heap.size + 1, 0, none⟩) (Fr.refl (fun q => q = w.heap.size + 1) wr) (Or.inl rfl) _) (Or.inl rfl) _) (Or.inl rfl) _
      have L5 := ((HBK.out.set 0 (.slice u0 e0 f0)).set 1 (.slice u1 e1 f1)).set 2 (.slice u2 e2 f2)
      obtain ⟨a0, a1, a2⟩ := RA.out.own.parts.apart_of HBK.out (by decide) (by decide)
      have a3 := (typed_row RA.out.row).ne_blk HBK.out (by decide)
      have S7 : StAt _ u0 u1 u2 (st k) := ⟨SA.out.q.fr fz (fun ad e hs => a0 (by rw [own_some e, hs])), SA.out.s.fr fz (fun ad e hs => a1 (by rw [own_some e, hs])), SA.out.m.fr fz (fun ad e hs => a2 (by rw [own_some e, hs]))⟩
      have R7 := RT.out.fr fz (fun ad e hs => a3 (by rw [own_some e, hs]))
      have X7 := fz.ext RA.out.ext (fun q e => by omega)
      generalize ((wr.setCell ⟨w.heap.size + 1, 0, none⟩ (.slice u0 e0 f0)).setCell ⟨w.heap.size + 1, 1, none⟩ (.slice u1 e1 f1)).setCell ⟨w.heap.size + 1, 2, none⟩ (.slice u2 e2 f2) = W7 at *
      have r0 : W7.cell? ⟨w.heap.size + 1, 0, none⟩ = some (.slice u0 e0 f0) := L5.cell 0
      have r1 : W7.cell? ⟨w.heap.size + 1, 1, none⟩ = some (.slice u1 e1 f1) := L5.cell 1
      have r2 : W7.cell? ⟨w.heap.size + 1, 2, none⟩ = some (.slice u2 e2 f2) := L5.cell 2
      exact bodyPost_ret (v := .tuple #[.agg #[.slice u0 e0 f0, .slice u1 e1 f1, .slice u2 e2 f2], .slice R (upto rs k).length d]) (by simp [results, Try.results8, go_sem, r0, r1, r2]) rfl ⟨u0, u1, u2, R, f0, f1, f2, d, by rw [HE0.out, HE1.out, HE2.out], S7, R7, X7⟩
end Go.Proofs.Ythbngenjcgclgaa
