/- Package retire: what looks at the next entry. Conditions: those that each theorem names. -/
import Derived.Test.YtfbobdkfibhcnaaGreatKRetA
import Derived.Stop.RegionWithIn
import Derived.Deep.RegionHeld3
namespace Go.Proofs.YtfbobdkfibhcnaaGreat
open Go.ChangeShapes Go.WideShapes Go.ChangeAt Go.RowKit Go.Shelf
set_option linter.unusedVariables false
attribute [local go_sem] Oper.semAt_some
section
variable {Q : Nat → Prop} {w0 w : World} {gm gp gl : Nat} {dv pv : Value} {s : MSt} {F : Nat → Int} {t slot : Int}
set_option maxRecDepth 100000 in
set_option maxHeartbeats 8000000 in
theorem rlook_ok (h : IsMem Q w w0 w gm dv pv s) (hc : Calm s) (ok : Okay F) (k m : Nat) (hk : k ≤ 500) (hm : m ≤ 500) (hm0 : 0 < m) (hL : F 2 = (k : Int) + (m : Int)) (hb : Blk w gp 193 (RvM.cells ⟨(k : Int), 0, false⟩ gl t slot)) (hl : Blk w gl 223 (cellsF F)) (qp : Q gp) (ql : Q gl) (nlp : gl ≠ gp) (p0 : w0.heap.size ≤ gp) :
    Calls Tryz.prog 132 #[.pointer (some ⟨gp, 0, none⟩), .pointer (some ⟨gm, 0, none⟩)] w fun e w' => (∃ u, e = .returned u) ∧ IsMem Q w' w0 w' gm dv pv (s.load t (logN F t k)) ∧ Blk w' gp 193 (RvM.cells (if peekV s (logN F t k) = 0 then ⟨(k : Int), 1, false⟩ else ⟨(k : Int) + 1, 0, decide (F 2 ≤ (k : Int) + 1)⟩) gl t slot) ∧ (∀ b, Q b → b ≠ gp → w'.heap[b]? = w.heap[b]?) := by
  obtain ⟨PC, hPC⟩ : ∃ PC : List Value, (RvM.cells (if peekV s (logN F t k) = 0 then ⟨(k : Int), 1, false⟩ else ⟨(k : Int) + 1, 0, decide (F 2 ≤ (k : Int) + 1)⟩) gl t slot) = PC := ⟨_, rfl⟩
  rw [hPC]
  have HPC := Lib.hid hPC
  clear hPC
  have x0 := ((Ext.refl w).alloc (.cells #[.pointer (some ⟨gp, 0, none⟩)] 70)).alloc (.cells #[.pointer (some ⟨gm, 0, none⟩)] 29)
  have f0 := (Blk.new w 70 [.pointer (some ⟨gp, 0, none⟩)]).ext ((Ext.refl _).alloc (.cells #[.pointer (some ⟨gm, 0, none⟩)] 29))
  have f1 := Blk.new (w.alloc (.cells #[.pointer (some ⟨gp, 0, none⟩)] 70)) 29 [.pointer (some ⟨gm, 0, none⟩)]
  have hsz : ((w.alloc (.cells #[.pointer (some ⟨gp, 0, none⟩)] 70)).alloc (.cells #[.pointer (some ⟨gm, 0, none⟩)] 29)).heap.size = w.heap.size + 2 := by simp
  simp only [World.size_alloc] at f1
  have hgp := hb.lt
  have hgl := hl.lt
  have hw0 : w0.heap.size ≤ w.heap.size := h.lt.1.size
  have HP : Hid (∀ W, Ext ((w.alloc (.cells #[.pointer (some ⟨gp, 0, none⟩)] 70)).alloc (.cells #[.pointer (some ⟨gm, 0, none⟩)] 29)) W → W.cell? ⟨w.heap.size, 0, none⟩ = some (.pointer (some ⟨gp, 0, none⟩)) ∧ W.cell? ⟨gp, 0, none⟩ = some (.pointer (some ⟨gl, 0, none⟩)) ∧ W.cell? ⟨gp, 1, none⟩ = some (.int .i64 t) ∧ W.cell? ⟨gp, 3, none⟩ = some (.int .i64 k)) := Lib.hid (fun W x => ⟨(f0.ext x).cell 0, (hb.ext (x0.trans x)).cell 0, (hb.ext (x0.trans x)).cell 1, (hb.ext (x0.trans x)).cell 3⟩)
  have F0 := Lib.hid f0
  have F1 := Lib.hid f1
  have X0 := Lib.hid x0
  have HSZ := Lib.hid hsz
  have HH := Lib.hid h
  have HBb := Lib.hid hb
  have HLl := Lib.hid hl
  have HOk := Lib.hid ok
  have HCc := Lib.hid hc
  have HTt := Lib.hid hL
  clear h hb hl ok hc hL f0 f1 x0 hsz
  refine (callsIn_wide (n := 6)).1 ?_
  refine callsIn_of_wp_marks Tryz.func132 rfl trivial ?_ rfl
  simp only [Tryz.ntmps132, List.size_toArray, List.length_cons, List.length_nil, Nat.reduceAdd, Nat.reduceSub, Array.replicate_succ, Array.replicate_zero, List.push_toArray, List.append_toArray, List.nil_append, List.cons_append]
  gi_wp2
  generalize ((w.alloc (.cells #[.pointer (some ⟨gp, 0, none⟩)] 70)).alloc (.cells #[.pointer (some ⟨gm, 0, none⟩)] 29)) = W2 at *
  obtain ⟨y0, y1, y2, y3⟩ := HP.out W2 (Ext.refl _)
  have M := Lib.hid ((Ext.refl W2).drew)
  refine wpIn_wide.2 ?_
  go_region_held3 (fun W => W.cell? ⟨w.heap.size, 0, none⟩ = some (.pointer (some ⟨gp, 0, none⟩)) ∧ W.cell? ⟨gp, 0, none⟩ = some (.pointer (some ⟨gl, 0, none⟩)) ∧ W.cell? ⟨gp, 1, none⟩ = some (.int .i64 t) ∧ W.cell? ⟨gp, 3, none⟩ = some (.int .i64 k)) (first | exact HP.out _ M.out | go_keep) (first
    | (go_at_call 129; refine (entries_ok gl t (k : Int) _).mono ?_; rintro e w1 ⟨hh, rfl, eb⟩; have MM := Lib.hid M.out; have EB := Lib.hid eb; replace M := Lib.hid (M.out.trans eb.x); clear eb))
  clear y0 y1 y2 y3
  have hlo : w.heap.size + 2 ≤ hh := by
    have h1 := EB.out.lo
    have h2 := MM.out.size
    have h3 := HSZ.out
    omega
  have hs4 : w1.heap.size = hh + 3 := EB.out.sz
  replace F0 := Lib.hid (F0.out.ext M.out)
  replace F1 := Lib.hid (F1.out.ext M.out)
  replace X0 := Lib.hid (X0.out.trans M.out)
  clear HSZ MM
  obtain ⟨Q1, hQ1⟩ : ∃ Q1 : Nat → Prop, Q1 = fun g => Q g ∨ g = w.heap.size ∨ g = w.heap.size + 1 ∨ g = hh ∨ g = hh + 1 ∨ g = hh + 1 + 1 := ⟨_, rfl⟩
  have q1 : ∀ g, Q g → Q1 g := fun g hg => by rw [hQ1]; exact Or.inl hg
  have qa : Q1 w.heap.size := by rw [hQ1]; exact Or.inr (Or.inl rfl)
  have qb : Q1 (w.heap.size + 1) := by rw [hQ1]; exact Or.inr (Or.inr (Or.inl rfl))
  have qd : Q1 (hh + 1 + 1) := by rw [hQ1]; exact Or.inr (Or.inr (Or.inr (Or.inr (Or.inr rfl))))
  have M4 : Hid (IsMem Q1 w1 w0 w1 gm dv pv s) := Lib.hid (HH.out.hold X0.out (fun g hg => by
    rw [hQ1] at hg
    rcases hg with e | e | e | e | e | e
    · exact ⟨Nat.lt_of_lt_of_le (HH.out.lt.2 g e) X0.out.size, Or.inl e⟩
    all_goals exact ⟨by omega, Or.inr (by omega)⟩))
  have bP := Lib.hid (HBb.out.ext X0.out)
  have bL := Lib.hid (HLl.out.ext X0.out)
  have hQlt : ∀ g, Q g → g < w.heap.size := HH.out.lt.2
  have hQ1lt : ∀ g, Q1 g → g < w1.heap.size := M4.out.lt.2
  have hKQ : Hid (∀ b, Q b → w1.heap[b]? = w.heap[b]?) := Lib.hid (fun b hb => X0.out.block b (hQlt b hb))
  clear hQ1
  have MW : Hid (∀ W, Below w1.heap.size w1 W → IsMem (fun g => Q1 g ∨ (w1.heap.size ≤ g ∧ g < W.heap.size)) W w0 W gm dv pv s) := Lib.hid (fun W hB => M4.out.hold (Ext.of hB) (fun g hg => by
    rcases hg with e | e
    · exact ⟨Nat.lt_of_lt_of_le (M4.out.lt.2 g e) hB.size, Or.inl e⟩
    · exact ⟨e.2, Or.inr e.1⟩))
  have hSlt : ∀ g, (g = hh + 1 + 1 ∨ g = hh ∨ g = hh + 1 ∨ g = gl) → g < w1.heap.size := fun g hg => by rcases hg with rfl | rfl | rfl | rfl <;> omega
  have grow : Hid (∀ W w2 : World, w1.heap.size ≤ W.heap.size → (∀ g, (Q1 g ∨ (w1.heap.size ≤ g ∧ g < W.heap.size)) → g < w2.heap.size) → W.heap.size ≤ w2.heap.size) := Lib.hid (fun W w2 hs hk => by
    rcases Nat.lt_or_ge w1.heap.size W.heap.size with hlt | hge
    · have := hk (W.heap.size - 1) (Or.inr ⟨by omega, by omega⟩)
      omega
    · have := hk (hh + 1 + 1) (Or.inl qd)
      omega)
  gi_wp2
  refine wpIn_rangeFunc_ownG rfl (by decide) (gf := 189) (lb := #[.pointer (some ⟨hh + 1 + 1, 0, none⟩), .pointer (some ⟨hh, 0, none⟩), .pointer (some ⟨hh + 1, 0, none⟩)]) rfl trivial (enters_of Tryz.func189 (by kernel_rfl) rfl)
    (ent_stops (6 - 1) (by decide) (hh + 1 + 1) hh (hh + 1) gl k m (by omega) (by omega) w1 F HOk.out t (F 2) HTt.out rfl (fun g => g = hh + 1 + 1 ∨ g = hh ∨ g = hh + 1 ∨ g = gl) (Or.inl rfl) (Or.inr (Or.inl rfl)) (Or.inr (Or.inr (Or.inl rfl))) (Or.inr (Or.inr (Or.inr rfl))) hSlt EB.out.b2 EB.out.b0 EB.out.b1 bL.out)
    (fun h k => KeepE.trans h k) (fun W l _ o' hl _ _ _ => KeepE.putObj (B := w1.heap.size) hSlt W l o' hl) (Below.refl _ _) (fun _ => rfl)
    (fun (pre : List (Fin m)) W => pre = [] ∧ Below w1.heap.size w1 W)
    (fun c (pre : List (Fin m)) W => ∃ x : Fin m, pre = [x] ∧ IsMem Q1 W w0 W gm dv pv (s.load t (logN F t ((k : Int) + (x.val : Int)))) ∧ (∀ b, Q1 b → b ≠ gp → W.heap[b]? = w1.heap[b]?) ∧ ((c = .ret ∧ (peekV s (logN F t ((k : Int) + (x.val : Int)))) = 0 ∧ Blk W gp 193 (RvM.cells ⟨(k : Int), 1, false⟩ gl t slot)) ∨ (c = .exit 0 ∧ (peekV s (logN F t ((k : Int) + (x.val : Int)))) ≠ 0 ∧ Blk W gp 193 (RvM.cells ⟨((k : Int) + (x.val : Int)) + 1, 0, false⟩ gl t slot))))
    (OwnFrom.and (ownFrom_pure _ (fun pre => pre = [])) (ownFrom_below (Nat.le_refl _) (Nat.le_refl _)))
    (fun c => by
      rintro pre A B row ⟨x, e1, m1, k1, ex⟩ hg hr
      have hne : ∀ b, b < w1.heap.size → some b ≠ row := fun b hb e => by
        have := (hr b e.symm).1
        omega
      have hG : B.heap[gp]? = A.heap[gp]? := hg.block gp (m1.lt.2 gp (q1 gp qp)) (hne gp (by omega))
      refine ⟨x, e1, m1.grown hg (fun r e => ⟨by have := (hr r e).1; omega, (hr r e).2⟩), fun b hq hn => (hg.block b (m1.lt.2 b hq) (hne b (by have := hQ1lt b hq; omega))).trans (k1 b hq hn), ?_⟩
      rcases ex with ⟨e2, e3, b1⟩ | ⟨e2, e3, b1⟩
      · exact Or.inl ⟨e2, e3, hG.trans b1⟩
      · exact Or.inr ⟨e2, e3, hG.trans b1⟩)
    ⟨rfl, Below.refl _ _⟩
    (fun x => { tmps := #[.pointer (some ⟨gp, 0, none⟩), .pointer (some ⟨gm, 0, none⟩), .pointer (some ⟨w.heap.size, 0, none⟩), .pointer (some ⟨w.heap.size + 1, 0, none⟩), .int .i64 ((k : Int) + (x.val : Int)), .int .i64 (logN F t ((k : Int) + (x.val : Int))), .pointer (some ⟨gp, 0, none⟩), .pointer (some ⟨gp, 0, none⟩), .pointer (some ⟨gp, 0, none⟩), .pointer (some ⟨gp, 0, none⟩), .pointer (some ⟨gp, 0, none⟩), .pointer (some ⟨gl, 0, none⟩), .pointer (some ⟨gp, 0, none⟩), .pointer (some ⟨gp, 0, none⟩), .pointer (some ⟨gp, 0, none⟩), .pointer (some ⟨gp, 0, none⟩), .pointer (some ⟨gp, 1, none⟩), .int .i64 t, .pointer (some ⟨gp, 0, none⟩), .pointer (some ⟨gp, 0, none⟩), .pointer (some ⟨gp, 0, none⟩), .pointer (some ⟨gp, 3, none⟩), .int .i64 k, .func (.func 189) #[] #[.pointer (some ⟨hh + 1 + 1, 0, none⟩), .pointer (some ⟨hh, 0, none⟩), .pointer (some ⟨hh + 1, 0, none⟩)], .int .i64 ((k : Int) + (x.val : Int)), .int .i64 (logN F t ((k : Int) + (x.val : Int))), undef, undef, undef, undef, undef, undef, undef, undef, undef, undef, undef, undef, undef, undef, undef, undef, undef, undef, undef, undef, undef, undef, undef, undef, undef, undef, undef, undef, undef, undef, undef, undef, undef, undef, undef], defers := [] }) ?assign ?body ?done ?stop
  case assign =>
    intro l x W K hK
    gi_wp2
    exact hK
  case body =>
    rintro l pre x W ⟨rfl, hB⟩ hlt
    have hxm := x.isLt
    have hlr := logN_rng HOk.out t ((k : Int) + (x.val : Int))
    have HLd : Hid (∀ W', Ext W W' → CallsIn (Fence.wide.inRound l) 3 Tryz.prog 97 #[.pointer (some ⟨gm, 0, none⟩), .int .i64 t, .int .i64 (logN F t ((k : Int) + (x.val : Int)))] W' fun e w' => e = .returned (.int .u64 (peekV s (logN F t ((k : Int) + (x.val : Int))))) ∧ IsMem (fun g => Q1 g ∨ (w1.heap.size ≤ g ∧ g < W.heap.size)) W w0 w' gm dv pv (s.load t (logN F t ((k : Int) + (x.val : Int))))) := Lib.hid (fun W' x => CallsIn.inRound l (callsIn_wide.2 (memLoad_ok ((MW.out W hB).ext x) t _ hlr.1 hlr.2 HCc.out)))
    have y0 : W.cell? ⟨w.heap.size, 0, none⟩ = some (.pointer (some ⟨gp, 0, none⟩)) := Blk.cell ((hB.block _ (by omega)).trans F0.out) 0
    have y1 : W.cell? ⟨w.heap.size + 1, 0, none⟩ = some (.pointer (some ⟨gm, 0, none⟩)) := Blk.cell ((hB.block _ (by omega)).trans F1.out) 0
    have y2 : W.cell? ⟨gp, 1, none⟩ = some (.int .i64 t) := Blk.cell ((hB.block gp (by omega)).trans bP.out) 1
    have hWu : True := trivial
    have BP : Hid (Blk W gp 193 (RvM.cells ⟨(k : Int), 0, false⟩ gl t slot)) := Lib.hid ((hB.block gp (by omega)).trans bP.out)
    have F0W : Hid (Blk W w.heap.size 70 [.pointer (some ⟨gp, 0, none⟩)]) := Lib.hid ((hB.block _ (by omega)).trans F0.out)
    have F1W : Hid (Blk W (w.heap.size + 1) 29 [.pointer (some ⟨gm, 0, none⟩)]) := Lib.hid ((hB.block _ (by omega)).trans F1.out)
    have BLW : Hid (Blk W gl 223 (cellsF F)) := Lib.hid ((hB.block gl (by omega)).trans bL.out)
    have HBw := Lib.hid hB
    have HV := Lib.hid ((MW.out W hB).peekU (logN F t ((k : Int) + (x.val : Int))))
    clear hB hlr hWu
    obtain ⟨v, hv⟩ : ∃ v, (peekV s (logN F t ((k : Int) + (x.val : Int)))) = v := ⟨_, rfl⟩
    obtain ⟨s1, es1⟩ : ∃ s1, s.load t (logN F t ((k : Int) + (x.val : Int))) = s1 := ⟨_, rfl⟩
    rw [hv, es1] at HLd
    rw [hv] at HV
    have EV := Lib.hid hv
    have ES1 := Lib.hid es1
    clear hv es1
    gi_wp2
    gi_region_with (refine ⟨trivial, ?_⟩; gi_at_call 97; refine (HLd.out _ ((Ext.refl _).drew)).mono ?_; rintro e w2 ⟨rfl, m2⟩; have M2 := Lib.hid m2; clear m2)
    all_goals
      have hwW : w1.heap.size ≤ W.heap.size := HBw.out.size
      have kW : Hid (∀ b, (Q1 b ∨ (w1.heap.size ≤ b ∧ b < W.heap.size)) → w2.heap[b]? = W.heap[b]?) := Lib.hid (fun b hb => M2.out.keptQ b hb)
      have kk : Hid (∀ b, Q1 b → w2.heap[b]? = w1.heap[b]?) := Lib.hid (fun b hb => (kW.out b (Or.inl hb)).trans (HBw.out.block b (hQ1lt b hb)))
      have B2 : Hid (Blk w2 gp 193 (RvM.cells ⟨(k : Int), 0, false⟩ gl t slot)) := Lib.hid ((kW.out gp (Or.inl (q1 gp qp))).trans BP.out)
      have L2 : Hid (Blk w2 gl 223 (cellsF F)) := Lib.hid ((kW.out gl (Or.inl (q1 gl ql))).trans BLW.out)
      have F2 : Hid (Blk w2 w.heap.size 70 [.pointer (some ⟨gp, 0, none⟩)]) := Lib.hid ((kW.out _ (Or.inl qa)).trans F0W.out)
      have z0 : w2.cell? ⟨w.heap.size, 0, none⟩ = some (.pointer (some ⟨gp, 0, none⟩)) := F2.out.cell 0
      have hkf : Hid (KeepsFrom w1.heap.size W w2) := Lib.hid ⟨grow.out W w2 hwW M2.out.lt.2, fun j o hj ho _ => (kW.out j (Or.inr ⟨hj, (Array.getElem?_eq_some_iff.1 ho).1⟩)).trans ho⟩
      clear y0 y1 y2
      by_cases v0 : v = 0
      · have d0 : (v == 0) = true := by simp [v0]
        have z4 : w2.cell? ⟨gp, 4, none⟩ = some (.int .i64 0) := B2.out.cell 4
        have z4f : w2.frozen? ⟨gp, 4, none⟩ = false := B2.out.frozen 4
        have V0 := Lib.hid v0
        clear v0
        gi_wp2
        have f : Fr (fun b => b = gp) w2 (w2.setCell ⟨gp, 4, none⟩ (.int .i64 1)) := Fr.setCell (S := fun b => b = gp) (p := ⟨gp, 4, none⟩) (Fr.refl _ w2) (Or.inl rfl) _
        have m3 := M2.out.turn f (fun b e => by rw [e]; exact Or.inl (q1 gp qp)) (fun b e => by rw [e]; exact p0)
        refine ⟨hkf.out.trans ((KeepsOthers.setCell w2 _ _).from _), x, rfl, ?_, fun b hq hn => (f.block b (M2.out.lt.2 b (Or.inl hq)) hn).trans (kk.out b hq), Or.inl ⟨rfl, by rw [EV.out]; exact V0.out, B2.out.set 4 _⟩⟩
        rw [ES1.out]
        exact m3.less (fun g hg => Or.inl hg) (fun _ _ => rfl)
      · have d0 : (v == 0) = false := by rw [beq_eq_false_iff_ne]; exact v0
        have z3 : w2.cell? ⟨gp, 3, none⟩ = some (.int .i64 (k : Int)) := B2.out.cell 3
        have z3f : w2.frozen? ⟨gp, 3, none⟩ = false := B2.out.frozen 3
        have wn : IntKind.i64.wrap (((k : Int) + (x.val : Int)) + 1) = ((k : Int) + (x.val : Int)) + 1 := i64w _ (by omega) (by omega)
        have V0 := Lib.hid v0
        clear v0
        gi_wp2
        have f : Fr (fun b => b = gp) w2 (w2.setCell ⟨gp, 3, none⟩ (.int .i64 (((k : Int) + (x.val : Int)) + 1))) := Fr.setCell (S := fun b => b = gp) (p := ⟨gp, 3, none⟩) (Fr.refl _ w2) (Or.inl rfl) _
        have m3 := M2.out.turn f (fun b e => by rw [e]; exact Or.inl (q1 gp qp)) (fun b e => by rw [e]; exact p0)
        refine ⟨hkf.out.trans ((KeepsOthers.setCell w2 _ _).from _), x, rfl, ?_, fun b hq hn => (f.block b (M2.out.lt.2 b (Or.inl hq)) hn).trans (kk.out b hq), Or.inr ⟨rfl, by rw [EV.out]; exact V0.out, B2.out.set 3 _⟩⟩
        rw [ES1.out]
        exact m3.less (fun g hg => Or.inl hg) (fun _ _ => rfl)
  case done =>
    rintro D xs W hD rfl ⟨hnil, hB⟩ hK
    obtain rfl : m = 0 := by
      have := congrArg List.length hnil
      simpa using this
    omega
  case stop =>
    rintro D c pre W hD ⟨j, hj⟩ ⟨x, rfl, m1, k1, ex⟩ hK
    have hxm := x.isLt
    have hx0 : x.val = 0 := by
      have h1 : ([x] : List (Fin m))[0]? = ((List.finRange m).take j)[0]? := by rw [hj]
      rw [List.getElem?_take] at h1
      split at h1
      · have h2 : (List.finRange m)[0]? = some ⟨0, by omega⟩ := by
          rw [List.getElem?_eq_getElem (by simp; omega)]
          simp
        rw [h2] at h1
        simp at h1
        rw [h1]
      · simp at h1
    rw [hx0, show (k : Int) + ((0 : Nat) : Int) = k by omega] at m1 ex
    have M1 := Lib.hid m1
    have K1 := Lib.hid k1
    have HKd := Lib.hid hK
    have hDW : D < W.heap.size := (Array.getElem?_eq_some_iff.1 hK).1
    have hgW : gp < W.heap.size := m1.lt.2 gp (q1 gp qp)
    clear m1 k1 hK hj
    rcases ex with ⟨rfl, v0, b1⟩ | ⟨rfl, v0, b1⟩
    · have B1 := Lib.hid b1
      have V0 := Lib.hid v0
      clear b1 v0
      gi_wp2
      refine ⟨by simp, .inl ⟨_, _, rfl, run_takeDeferred HKd.out, ?_⟩⟩
      have mg := M1.out.grown (grownBy_putObj' W D (.deferred none)) (fun r e => by cases e; exact ⟨by omega, _, HKd.out, rfl⟩)
      refine ⟨_, results_none rfl _ _ _, ⟨_, rfl⟩, mg.less q1 (fun _ _ => rfl), by rw [← HPC.out, if_pos V0.out]; exact B1.out.putObj (show gp ≠ D by omega) _, fun b hq hne => ?_⟩
      have hb1 := hQlt b hq
      exact (World.putObj_heap_other (by omega)).trans ((K1.out b (q1 b hq) hne).trans (hKQ.out b hq))
    · have B1 := Lib.hid b1
      have V0 := Lib.hid v0
      clear b1 v0
      have z0 : W.cell? ⟨w.heap.size, 0, none⟩ = some (.pointer (some ⟨gp, 0, none⟩)) := Blk.cell ((K1.out _ qa (by omega)).trans F0.out) 0
      have FW : Hid (Blk W w.heap.size 70 [.pointer (some ⟨gp, 0, none⟩)]) := Lib.hid ((K1.out _ qa (by omega)).trans F0.out)
      have LW : Hid (Blk W gl 223 (cellsF F)) := Lib.hid ((K1.out gl (q1 gl ql) nlp).trans bL.out)
      have HBe := Lib.hid (fun W' (x : Ext W W') => behind_ok gp gl ((k : Int) + 1) W' (LW.out.ext x) ((B1.out.ext x).cell 0))
      have HP2 : Hid (∀ W', Ext W W' → W'.cell? ⟨w.heap.size, 0, none⟩ = some (.pointer (some ⟨gp, 0, none⟩)) ∧ W'.cell? ⟨gp, 3, none⟩ = some (.int .i64 ((k : Int) + 1))) := Lib.hid (fun W' x => ⟨(FW.out.ext x).cell 0, (B1.out.ext x).cell 3⟩)
      have hnw : w.heap.size ≠ gp := by omega
      have HP3 : Hid (∀ W' u, Ext W W' → (W'.setCell ⟨gp, 2, none⟩ u).cell? ⟨w.heap.size, 0, none⟩ = some (.pointer (some ⟨gp, 0, none⟩)) ∧ (W'.setCell ⟨gp, 2, none⟩ u).cell? ⟨gp, 3, none⟩ = some (.int .i64 ((k : Int) + 1))) := Lib.hid (fun W' u x => ⟨((FW.out.ext x).far (p := ⟨gp, 2, none⟩) hnw u).cell 0, ((B1.out.ext x).set 2 u).cell 3⟩)
      have M := Lib.hid ((Ext.refl W).drew)
      obtain ⟨db, hdb⟩ : ∃ db, decide (F 2 ≤ (k : Int) + 1) = db := ⟨_, rfl⟩
      rw [hdb] at HBe
      have HDb := Lib.hid hdb
      clear hdb
      gi_wp2
      refine wpIn_wide.2 ?_
      go_region_held3 (fun W' => W'.cell? ⟨w.heap.size, 0, none⟩ = some (.pointer (some ⟨gp, 0, none⟩)) ∧ W'.cell? ⟨gp, 3, none⟩ = some (.int .i64 ((k : Int) + 1))) (first | exact HP2.out _ M.out | exact HP3.out _ _ M.out | go_keep) (first
        | (go_at_call 135; refine (HBe.out _ M.out).mono ?_; rintro e w5 ⟨rfl, x5⟩; replace M := Lib.hid (M.out.trans x5); have z2 : w5.cell? ⟨gp, 2, none⟩ = some (.bool false) := (B1.out.ext M.out).cell 2; have z2f : w5.frozen? ⟨gp, 2, none⟩ = false := (B1.out.ext M.out).frozen 2; clear x5))
      all_goals
        gi_wp2
        have m5 := (M1.out.ext M.out).here
        have f : Fr (fun b => b = gp) w5 (w5.setCell ⟨gp, 2, none⟩ (.bool db)) := Fr.setCell (S := fun b => b = gp) (p := ⟨gp, 2, none⟩) (Fr.refl _ w5) (Or.inl rfl) _
        have m6 := m5.turn f (fun b e => by rw [e]; exact q1 gp qp) (fun b e => by rw [e]; exact p0)
        have hK5 : w5.heap[D]? = some (.deferred (some [])) := (M.out.block D hDW).trans HKd.out
        have hK6 : (w5.setCell ⟨gp, 2, none⟩ (.bool db)).heap[D]? = some (.deferred (some [])) := (KeepsOthers.setCell w5 ⟨gp, 2, none⟩ (.bool db)).same D _ hK5 rfl
        refine ⟨by simp, .inl ⟨_, _, rfl, run_takeDeferred hK6, ?_⟩⟩
        have mg := m6.grown (grownBy_putObj' _ D (.deferred none)) (fun r e => by cases e; exact ⟨by omega, _, hK6, rfl⟩)
        refine ⟨_, results_none rfl _ _ _, ⟨_, rfl⟩, mg.less q1 (fun _ _ => rfl), by rw [← HPC.out, if_neg V0.out, HDb.out]; exact ((B1.out.ext M.out).set 2 _).putObj (show gp ≠ D by omega) _, fun b hq hne => ?_⟩
        have hb1 := hQlt b hq
        exact (World.putObj_heap_other (by omega)).trans ((f.block b (m5.lt.2 b (q1 b hq)) hne).trans ((M.out.block b (M1.out.lt.2 b (q1 b hq))).trans ((K1.out b (q1 b hq) hne).trans (hKQ.out b hq))))
end
end Go.Proofs.YtfbobdkfibhcnaaGreat
