/- Package retire: what looks at the next entry. Conditions: those that each theorem names. -/
import Derived.Test.YtbicloceaddinaaGreatKRetA
import Derived.Stop.RegionWithIn
import Derived.Deep.RegionHeld3
namespace Go.Proofs.YtbicloceaddinaaGreat
open Go.ChangeShapes Go.WideShapes Go.ChangeAt Go.RowKit Go.Shelf
set_option linter.unusedVariables false
attribute [local go_sem] Oper.semAt_some
section
variable {Q : Nat → Prop} {w0 w : World} {gm gp gl : Nat} {dv pv : Value} {s : MSt} {F : Nat → Int} {t slot : Int}
set_option maxRecDepth 100000 in
set_option maxHeartbeats 8000000 in
theorem rlook_ok (h : IsMem Q w w0 w gm dv pv s) (hc : Calm s) (ok : Okay F) (k m : Nat) (hk : k ≤ 500) (hm : m ≤ 500) (hm0 : 0 < m) (hL : F 2 = (k : Int) + (m : Int)) (hb : Blk w gp 195 (RvM.cells ⟨(k : Int), 0, false⟩ gl t slot)) (hl : Blk w gl 173 (cellsF F)) (qp : Q gp) (ql : Q gl) (nlp : gl ≠ gp) (p0 : w0.heap.size ≤ gp) :
    Calls Tryz.prog 125 #[.pointer (some ⟨gp, 0, none⟩), .pointer (some ⟨gm, 0, none⟩)] w fun e w' => (∃ u, e = .returned u) ∧ IsMem Q w' w0 w' gm dv pv (s.load t (logN F t k)) ∧ Blk w' gp 195 (RvM.cells (if peekV s (logN F t k) = 0 then ⟨(k : Int), 1, false⟩ else ⟨(k : Int) + 1, 0, decide (F 2 ≤ (k : Int) + 1)⟩) gl t slot) ∧ (∀ b, Q b → b ≠ gp → w'.heap[b]? = w.heap[b]?) := by
  obtain ⟨PC, hPC⟩ : ∃ PC : List Value, (RvM.cells (if peekV s (logN F t k) = 0 then ⟨(k : Int), 1, false⟩ else ⟨(k : Int) + 1, 0, decide (F 2 ≤ (k : Int) + 1)⟩) gl t slot) = PC := ⟨_, rfl⟩
  rw [hPC]
  have HPC := Lib.hid hPC
  clear hPC
  have x0 := ((Ext.refl w).alloc (.cells #[.pointer (some ⟨gp, 0, none⟩)] 36)).alloc (.cells #[.pointer (some ⟨gm, 0, none⟩)] 31)
  have f0 := (Blk.new w 36 [.pointer (some ⟨gp, 0, none⟩)]).ext ((Ext.refl _).alloc (.cells #[.pointer (some ⟨gm, 0, none⟩)] 31))
  have f1 := Blk.new (w.alloc (.cells #[.pointer (some ⟨gp, 0, none⟩)] 36)) 31 [.pointer (some ⟨gm, 0, none⟩)]
  have hsz : ((w.alloc (.cells #[.pointer (some ⟨gp, 0, none⟩)] 36)).alloc (.cells #[.pointer (some ⟨gm, 0, none⟩)] 31)).heap.size = w.heap.size + 2 := by simp
  simp only [World.size_alloc] at f1
  have hgp := hb.lt
  have hgl := hl.lt
  have hw0 : w0.heap.size ≤ w.heap.size := h.lt.1.size
  have HP : Hid (∀ W, Ext ((w.alloc (.cells #[.pointer (some ⟨gp, 0, none⟩)] 36)).alloc (.cells #[.pointer (some ⟨gm, 0, none⟩)] 31)) W → W.cell? ⟨w.heap.size, 0, none⟩ = some (.pointer (some ⟨gp, 0, none⟩)) ∧ W.cell? ⟨gp, 0, none⟩ = some (.pointer (some ⟨gl, 0, none⟩)) ∧ W.cell? ⟨gp, 1, none⟩ = some (.int .i64 t) ∧ W.cell? ⟨gp, 3, none⟩ = some (.int .i64 k)) := Lib.hid (fun W x => ⟨(f0.ext x).cell 0, (hb.ext (x0.trans x)).cell 0, (hb.ext (x0.trans x)).cell 1, (hb.ext (x0.trans x)).cell 3⟩)
  have F0 := Lib.hid f0
  have F1 := Lib.hid f1
  have X0 := Lib.hid x0
  have HSZ := Lib.hid hsz
  have HH := Lib.hid h
  have HBb := Lib.hid hb
  have HLl := Lib.hid hl
  have HOk := Lib.hid ok
  have HCc := Lib.hid hc
  have HTt := Lib.hid hL
  clear h hb hl ok hc hL f0 f1 x0 hsz
  refine (callsIn_wide (n := 6)).1 ?_
  refine callsIn_of_wp_marks Tryz.func125 rfl trivial ?_ rfl
  simp only [Tryz.ntmps125, List.size_toArray, List.length_cons, List.length_nil, Nat.reduceAdd, Nat.reduceSub, Array.replicate_succ, Array.replicate_zero, List.push_toArray, List.append_toArray, List.nil_append, List.cons_append]
  gi_wp2
  generalize ((w.alloc (.cells #[.pointer (some ⟨gp, 0, none⟩)] 36)).alloc (.cells #[.pointer (some ⟨gm, 0, none⟩)] 31)) = W2 at *
  obtain ⟨y0, y1, y2, y3⟩ := HP.out W2 (Ext.refl _)
  have M := Lib.hid ((Ext.refl W2).drew)
  refine wpIn_wide.2 ?_
  go_region_held3 (fun W => W.cell? ⟨w.heap.size, 0, none⟩ = some (.pointer (some ⟨gp, 0, none⟩)) ∧ W.cell? ⟨gp, 0, none⟩ = some (.pointer (some ⟨gl, 0, none⟩)) ∧ W.cell? ⟨gp, 1, none⟩ = some (.int .i64 t) ∧ W.cell? ⟨gp, 3, none⟩ = some (.int .i64 k)) (first | exact HP.out _ M.out | go_keep) (first
    | (go_at_call 128; refine (entries_ok gl t (k : Int) _).mono ?_; rintro e w1 ⟨hh, rfl, eb⟩; have MM := Lib.hid M.out; have EB := Lib.hid eb; replace M := Lib.hid (M.out.trans eb.x); clear eb))
  clear y0 y1 y2 y3
  have hlo : w.heap.size + 2 ≤ hh := by
    have h1 := EB.out.lo
    have h2 := MM.out.size
    have h3 := HSZ.out
    omega
  have hs4 : w1.heap.size = hh + 3 := EB.out.sz
  replace F0 := Lib.hid (F0.out.ext M.out)
  replace F1 := Lib.hid (F1.out.ext M.out)
  replace X0 := Lib.hid (X0.out.trans M.out)
  clear HSZ MM
  obtain ⟨Q1, hQ1⟩ : ∃ Q1 : Nat → Prop, Q1 = fun g => Q g ∨ g = w.heap.size ∨ g = w.heap.size + 1 ∨ g = hh ∨ g = hh + 1 ∨ g = hh + 1 + 1 := ⟨_, rfl⟩
  have q1 : ∀ g, Q g → Q1 g := fun g hg => by rw [hQ1]; exact Or.inl hg
  have qa : Q1 w.heap.size := by rw [hQ1]; exact Or.inr (Or.inl rfl)
  have qb : Q1 (w.heap.size + 1) := by rw [hQ1]; exact Or.inr (Or.inr (Or.inl rfl))
  have qd : Q1 (hh + 1 + 1) := by rw [hQ1]; exact Or.inr (Or.inr (Or.inr (Or.inr (Or.inr rfl))))
  have M4 : Hid (IsMem Q1 w1 w0 w1 gm dv pv s) := Lib.hid (HH.out.hold X0.out (fun g hg => by
    rw [hQ1] at hg
    rcases hg with e | e | e | e | e | e
    · exact ⟨Nat.lt_of_lt_of_le (HH.out.lt.2 g e) X0.out.size, Or.inl e⟩
    all_goals exact ⟨by omega, Or.inr (by omega)⟩))
  have bP := Lib.hid (HBb.out.ext X0.out)
  have bL := Lib.hid (HLl.out.ext X0.out)
  have hQlt : ∀ g, Q g → g < w.heap.size := HH.out.lt.2
  have hQ1lt : ∀ g, Q1 g → g < w1.heap.size := M4.out.lt.2
  have hKQ : Hid (∀ b, Q b → w1.heap[b]? = w.heap[b]?) := Lib.hid (fun b hb => X0.out.block b (hQlt b hb))
  clear hQ1
  have MW : Hid (∀ W, Below w1.heap.size w1 W → IsMem (fun g => Q1 g ∨ (w1.heap.size ≤ g ∧ g < W.heap.size)) W w0 W gm dv pv s) := Lib.hid (fun W hB => M4.out.hold (Ext.of hB) (fun g hg => by
    rcases hg with e | e
    · exact ⟨Nat.lt_of_lt_of_le (M4.out.lt.2 g e) hB.size, Or.inl e⟩
    · exact ⟨e.2, Or.inr e.1⟩))
  have hSlt : ∀ g, (g = hh + 1 + 1 ∨ g = hh ∨ g = hh + 1 ∨ g = gl) → g < w1.heap.size := fun g hg => by rcases hg with rfl | rfl | rfl | rfl <;> omega
  have grow : Hid (∀ W w2 : World, w1.heap.size ≤ W.heap.size → (∀ g, (Q1 g ∨ (w1.heap.size ≤ g ∧ g < W.heap.size)) → g < w2.heap.size) → W.heap.size ≤ w2.heap.size) := Lib.hid (fun W w2 hs hk => by
    rcases Nat.lt_or_ge w1.heap.size W.heap.size with hlt | hge
    · have := hk (W.heap.size - 1) (Or.inr ⟨by omega, by omega⟩)
      omega
    · have := hk (hh + 1 + 1) (Or.inl qd)
      omega)
  gi_wp2
  refine wpIn_rangeFunc_ownG rfl (by decide) (gf := 183) (lb := #[.pointer (some ⟨hh + 1 + 1, 0, none⟩), .pointer (some ⟨hh, 0, none⟩), .pointer (some ⟨hh + 1, 0, none⟩)]) rfl trivial (enters_of Tryz.func183 (by kernel_rfl) rfl)
    (ent_stops (6 - 1) (by decide) (hh + 1 + 1) hh (hh + 1) gl k m (by omega) (by omega) w1 F HOk.out t (F 2) HTt.out rfl (fun g => g = hh + 1 + 1 ∨ g = hh ∨ g = hh + 1 ∨ g = gl) (Or.inl rfl) (Or.inr (Or.inl rfl)) (Or.inr (Or.inr (Or.inl rfl))) (Or.inr (Or.inr (Or.inr rfl))) hSlt EB.out.b2 EB.out.b0 EB.out.b1 bL.out)
    (fun h k => KeepE.trans h k) (fun W l _ o' hl _ _ _ => KeepE.putObj (B := w1.heap.size) hSlt W l o' hl) (Below.refl _ _) (fun _ => rfl)
    (fun (pre : List (Fin m)) W => pre = [] ∧ Below w1.heap.size w1 W)
    (fun c (pre : List (Fin m)) W => ∃ x : Fin m, pre = [x] ∧ IsMem Q1 W w0 W gm dv pv (s.load t (logN F t ((k : Int) + (x.val : Int)))) ∧ (∀ b, Q1 b → b ≠ gp → W.heap[b]? = w1.heap[b]?) ∧ ((c = .ret ∧ (peekV s (logN F t ((k : Int) + (x.val : Int)))) = 0 ∧ Blk W gp 195 (RvM.cells ⟨(k : Int), 1, false⟩ gl t slot)) ∨ (c = .exit 0 ∧ (peekV s (logN F t ((k : Int) + (x.val : Int)))) ≠ 0 ∧ Blk W gp 195 (RvM.cells ⟨((k : Int) + (x.val : Int)) + 1, 0, false⟩ gl t slot))))
    (OwnFrom.and (ownFrom_pure _ (fun pre => pre = [])) (ownFrom_below (Nat.le_refl _) (Nat.le_refl _)))
    (fun c => by
      rintro pre A B row ⟨x, e1, m1, k1, ex⟩ hg hr
      have hne : ∀ b, b < w1.heap.size → some b ≠ row := fun b hb e => by
        have := (hr b e.symm).1
        omega
      have hG : B.heap[gp]? = A.heap[gp]? := hg.block gp (m1.lt.2 gp (q1 gp qp)) (hne gp (by omega))
      refine ⟨x, e1, m1.grown hg (fun r e => ⟨by have := (hr r e).1; omega, (hr r e).2⟩), fun b hq hn => (hg.block b (m1.lt.2 b hq) (hne b (by have := hQ1lt b hq; omega))).trans (k1 b hq hn), ?_⟩
      rcases ex with ⟨e2, e3, b1⟩ | ⟨e2, e3, b1⟩
      · exact Or.inl ⟨e2, e3, hG.trans b1⟩
      · exact Or.inr ⟨e2, e3, hG.trans b1⟩)
    ⟨rfl, Below.refl _ _⟩
    (fun x => { tmps := #[.pointer (some ⟨gp, 0, none⟩), .pointer (some ⟨gm, 0, none⟩), .pointer (some ⟨w.heap.size, 0, none⟩), .pointer (some ⟨w.heap.size + 1, 0, none⟩), .int .i64 ((k : Int) + (x.val : Int)), .int .i64 (logN F t ((k : Int) + (x.val : Int))), .pointer (some ⟨gp, 0, none⟩), .pointer (some ⟨gp, 0, none⟩), .pointer (some ⟨gp, 0, none⟩), .pointer (some ⟨gp, 0, none⟩), .pointer (some ⟨gp, 0, none⟩), .pointer (some ⟨gl, 0, none⟩), .pointer (some ⟨gp, 0, none⟩), .pointer (some ⟨gp, 0, none⟩), .pointer (some ⟨gp, 0, none⟩), .pointer (some ⟨gp, 0, none⟩), .pointer (some ⟨gp, 1, none⟩), .int .i64 t, .pointer (some ⟨gp, 0, none⟩), .pointer (some ⟨gp, 0, none⟩), .pointer (some ⟨gp, 0, none⟩), .pointer (some ⟨gp, 3, none⟩), .int .i64 k, .func (.func 183) #[] #[.pointer (some ⟨hh + 1 + 1, 0, none⟩), .pointer (some ⟨hh, 0, none⟩), .pointer (some ⟨hh + 1, 0, none⟩)], .int .i64 ((k : Int) + (x.val : Int)), .int .i64 (logN F t ((k : Int) + (x.val : Int))), undef, undef, undef, undef, undef, undef, undef, undef, undef, undef, undef, undef, undef, undef, undef, undef, undef, undef, undef, undef, undef, undef, undef, undef, undef, undef, undef, undef, undef, undef, undef, undef, undef, undef, undef], defers := [] }) ?assign ?body ?done ?stop
  case assign =>
    intro l x W K hK
    gi_wp2
    exact hK
  case body =>
    rintro l pre x W ⟨rfl, hB⟩ hlt
    have hxm := x.isLt
    have hlr := logN_rng HOk.out t ((k : Int) + (x.val : Int))
    have HLd : Hid (∀ W', Ext W W' → CallsIn (Fence.wide.inRound l) 3 Tryz.prog 69 #[.pointer (some ⟨gm, 0, none⟩), .int .i64 t, .int .i64 (logN F t ((k : Int) + (x.val : Int)))] W' fun e w' => e = .returned (.int .u64 (peekV s (logN F t ((k : Int) + (x.val : Int))))) ∧ IsMem (fun g => Q1 g ∨ (w1.heap.size ≤ g ∧ g < W.heap.size)) W w0 w' gm dv pv (s.load t (logN F t ((k : Int) + (x.val : Int))))) := Lib.hid (fun W' x => CallsIn.inRound l (callsIn_wide.2 (memLoad_ok ((MW.out W hB).ext x) t _ hlr.1 hlr.2 HCc.out)))
    have y0 : W.cell? ⟨w.heap.size, 0, none⟩ = some (.pointer (some ⟨gp, 0, none⟩)) := Blk.cell ((hB.block _ (by omega)).trans F0.out) 0
    have y1 : W.cell? ⟨w.heap.size + 1, 0, none⟩ = some (.pointer (some ⟨gm, 0, none⟩)) := Blk.cell ((hB.block _ (by omega)).trans F1.out) 0
    have y2 : W.cell? ⟨gp, 1, none⟩ = some (.int .i64 t) := Blk.cell ((hB.block gp (by omega)).trans bP.out) 1
    have hWu : True := trivial
    have BP : Hid (Blk W gp 195 (RvM.cells ⟨(k : Int), 0, false⟩ gl t slot)) := Lib.hid ((hB.block gp (by omega)).trans bP.out)
    have F0W : Hid (Blk W w.heap.size 36 [.pointer (some ⟨gp, 0, none⟩)]) := Lib.hid ((hB.block _ (by omega)).trans F0.out)
    have F1W : Hid (Blk W (w.heap.size + 1) 31 [.pointer (some ⟨gm, 0, none⟩)]) := Lib.hid ((hB.block _ (by omega)).trans F1.out)
    have BLW : Hid (Blk W gl 173 (cellsF F)) := Lib.hid ((hB.block gl (by omega)).trans bL.out)
    have HBw := Lib.hid hB
    have HV := Lib.hid ((MW.out W hB).peekU (logN F t ((k : Int) + (x.val : Int))))
    clear hB hlr hWu
    obtain ⟨v, hv⟩ : ∃ v, (peekV s (logN F t ((k : Int) + (x.val : Int)))) = v := ⟨_, rfl⟩
    obtain ⟨s1, es1⟩ : ∃ s1, s.load t (logN F t ((k : Int) + (x.val : Int))) = s1 := ⟨_, rfl⟩
    rw [hv, es1] at HLd
    rw [hv] at HV
    have EV := Lib.hid hv
    have ES1 := Lib.hid es1
    clear hv es1
    gi_wp2
    gi_region_with (refine ⟨trivial, ?_⟩; gi_at_call 69; refine (HLd.out _ ((Ext.refl _).drew)).mono ?_; rintro e w2 ⟨rfl, m2⟩; have M2 := Lib.hid m2; clear m2)
    all_goals
      have hwW : w1.heap.size ≤ W.heap.size := HBw.out.size
      have kW : Hid (∀ b, (Q1 b ∨ (w1.heap.size ≤ b ∧ b < W.heap.size)) → w2.heap[b]? = W.heap[b]?) := Lib.hid (fun b hb => M2.out.keptQ b hb)
      have kk : Hid (∀ b, Q1 b → w2.heap[b]? = w1.heap[b]?) := Lib.hid (fun b hb => (kW.out b (Or.inl hb)).trans (HBw.out.block b (hQ1lt b hb)))
      have B2 : Hid (Blk w2 gp 195 (RvM.cells ⟨(k : Int), 0, false⟩ gl t slot)) := Lib.hid ((kW.out gp (Or.inl (q1 gp qp))).trans BP.out)
      have L2 : Hid (Blk w2 gl 173 (cellsF F)) := Lib.hid ((kW.out gl (Or.inl (q1 gl ql))).trans BLW.out)
      have F2 : Hid (Blk w2 w.heap.size 36 [.pointer (some ⟨gp, 0, none⟩)]) := Lib.hid ((kW.out _ (Or.inl qa)).trans F0W.out)
      have z0 : w2.cell? ⟨w.heap.size, 0, none⟩ = some (.pointer (some ⟨gp, 0, none⟩)) := F2.out.cell 0
      have hkf : Hid (KeepsFrom w1.heap.size W w2) := Lib.hid ⟨grow.out W w2 hwW M2.out.lt.2, fun j o hj ho _ => (kW.out j (Or.inr ⟨hj, (Array.getElem?_eq_some_iff.1 ho).1⟩)).trans ho⟩
      clear y0 y1 y2
      by_cases v0 : v = 0
      · have d0 : (v == 0) = true := by simp [v0]
        have z4 : w2.cell? ⟨gp, 4, none⟩ = some (.int .i64 0) := B2.out.cell 4
        have z4f : w2.frozen? ⟨gp, 4, none⟩ = false := B2.out.frozen 4
        have V0 := Lib.hid v0
        clear v0
        gi_wp2
        have f : Fr (fun b => b = gp) w2 (w2.setCell ⟨gp, 4, none⟩ (.int .i64 1)) := Fr.setCell (S := fun b => b = gp) (p := ⟨gp, 4, none⟩) (Fr.refl _ w2) (Or.inl rfl) _
        have m3 := M2.out.turn f (fun b e => by rw [e]; exact Or.inl (q1 gp qp)) (fun b e => by rw [e]; exact p0)
        refine ⟨hkf.out.trans ((KeepsOthers.setCell w2 _ _).from _), x, rfl, ?_, fun b hq hn => (f.block b (M2.out.lt.2 b (Or.inl hq)) hn).trans (kk.out b hq), Or.inl ⟨rfl, by rw [EV.out]; exact V0.out, B2.out.set 4 _⟩⟩
        rw [ES1.out]
        exact m3.less (fun g hg => Or.inl hg) (fun _ _ => rfl)
      · have d0 : (v == 0) = false := by rw [beq_eq_false_iff_ne]; exact v0
        have z3 : w2.cell? ⟨gp, 3, none⟩ = some (.int .i64 (k : Int)) := B2.out.cell 3
        have z3f : w2.frozen? ⟨gp, 3, none⟩ = false := B2.out.frozen 3
        have wn : IntKind.i64.wrap (((k : Int) + (x.val : Int)) + 1) = ((k : Int) + (x.val : Int)) + 1 := i64w _ (by omega) (by omega)
        have V0 := Lib.hid v0
        clear v0
        gi_wp2
        have f : Fr (fun b => b = gp) w2 (w2.setCell ⟨gp, 3, none⟩ (.int .i64 (((k : Int) + (x.val : Int)) + 1))) := Fr.setCell (S := fun b => b = gp) (p := ⟨gp, 3, none⟩) (Fr.refl _ w2) (Or.inl rfl) _
        have m3 := M2.out.turn f (fun b e => by rw [e]; exact Or.inl (q1 gp qp)) (fun b e => by rw [e]; exact p0)
        refine ⟨hkf.out.trans ((KeepsOthers.setCell w2 _ _).from _), x, rfl, ?_, fun b hq hn => (f.block b (M2.out.lt.2 b (Or.inl hq)) hn).trans (kk.out b hq), Or.inr ⟨rfl, by rw [EV.out]; exact V0.out, B2.out.set 3 _⟩⟩
        rw [ES1.out]
        exact m3.less (fun g hg => Or.inl hg) (fun _ _ => rfl)
  case done =>
    rintro D xs W hD rfl ⟨hnil, hB⟩ hK
    obtain rfl : m = 0 := by
      have := congrArg List.length hnil
      simpa using this
    omega
  case stop =>
    rintro D c pre W hD ⟨j, hj⟩ ⟨x, rfl, m1, k1, ex⟩ hK
    have hxm := x.isLt
    have hx0 : x.val = 0 := by
      have h1 : ([x] : List (Fin m))[0]? = ((List.finRange m).take j)[0]? := by rw [hj]
      rw [List.getElem?_take] at h1
      split at h1
      · have h2 : (List.finRange m)[0]? = some ⟨0, by omega⟩ := by
          rw [List.getElem?_eq_getElem (by simp; omega)]
          simp
        rw [h2] at h1
        simp at h1
        rw [h1]
      · simp at h1
    rw [hx0, show (k : Int) + ((0 : Nat) : Int) = k by omega] at m1 ex
    have M1 := Lib.hid m1
    have K1 := Lib.hid k1
    have HKd := Lib.hid hK
    have hDW : D < W.heap.size := (Array.getElem?_eq_some_iff.1 hK).1
    have hgW : gp < W.heap.size := m1.lt.2 gp (q1 gp qp)
    clear m1 k1 hK hj
    rcases ex with ⟨rfl, v0, b1⟩ | ⟨rfl, v0, b1⟩
    · have B1 := Lib.hid b1
      have V0 := Lib.hid v0
      clear b1 v0
      gi_wp2
      refine ⟨by simp, .inl ⟨_, _, rfl, run_takeDeferred HKd.out, ?_⟩⟩
      have mg := M1.out.grown (grownBy_putObj' W D (.deferred none)) (fun r e => by cases e; exact ⟨by omega, _, HKd.out, rfl⟩)
      refine ⟨_, results_none rfl _ _ _, ⟨_, rfl⟩, mg.less q1 (fun _ _ => rfl), by rw [← HPC.out, if_pos V0.out]; exact B1.out.putObj (show gp ≠ D by omega) _, fun b hq hne => ?_⟩
      have hb1 := hQlt b hq
      exact (World.putObj_heap_other (by omega)).trans ((K1.out b (q1 b hq) hne).trans (hKQ.out b hq))
    · have B1 := Lib.hid b1
      have V0 := Lib.hid v0
      clear b1 v0
      have z0 : W.cell? ⟨w.heap.size, 0, none⟩ = some (.pointer (some ⟨gp, 0, none⟩)) := Blk.cell ((K1.out _ qa (by omega)).trans F0.out) 0
      have FW : Hid (Blk W w.heap.size 36 [.pointer (some ⟨gp, 0, none⟩)]) := Lib.hid ((K1.out _ qa (by omega)).trans F0.out)
      have LW : Hid (Blk W gl 173 (cellsF F)) := Lib.hid ((K1.out gl (q1 gl ql) nlp).trans bL.out)
      have HBe := Lib.hid (fun W' (x : Ext W W') => behind_ok gp gl ((k : Int) + 1) W' (LW.out.ext x) ((B1.out.ext x).cell 0))
      have HP2 : Hid (∀ W', Ext W W' → W'.cell? ⟨w.heap.size, 0, none⟩ = some (.pointer (some ⟨gp, 0, none⟩)) ∧ W'.cell? ⟨gp, 3, none⟩ = some (.int .i64 ((k : Int) + 1))) := Lib.hid (fun W' x => ⟨(FW.out.ext x).cell 0, (B1.out.ext x).cell 3⟩)
      have hnw : w.heap.size ≠ gp := by omega
      have HP3 : Hid (∀ W' u, Ext W W' → (W'.setCell ⟨gp, 2, none⟩ u).cell? ⟨w.heap.size, 0, none⟩ = some (.pointer (some ⟨gp, 0, none⟩)) ∧ (W'.setCell ⟨gp, 2, none⟩ u).cell? ⟨gp, 3, none⟩ = some (.int .i64 ((k : Int) + 1))) := Lib.hid (fun W' u x => ⟨((FW.out.ext x).far (p := ⟨gp, 2, none⟩) hnw u).cell 0, ((B1.out.ext x).set 2 u).cell 3⟩)
      have M := Lib.hid ((Ext.refl W).drew)
      obtain ⟨db, hdb⟩ : ∃ db, decide (F 2 ≤ (k : Int) + 1) = db := ⟨_, rfl⟩
      rw [hdb] at HBe
      have HDb := Lib.hid hdb
      clear hdb
      gi_wp2
      refine wpIn_wide.2 ?_
      go_region_held3 (fun W' => W'.cell? ⟨w.heap.size, 0, none⟩ = some (.pointer (some ⟨gp, 0, none⟩)) ∧ W'.cell? ⟨gp, 3, none⟩ = some (.int .i64 ((k : Int) + 1))) (first | exact HP2.out _ M.out | exact HP3.out _ _ M.out | go_keep) (first
        | (go_at_call 130; refine (HBe.out _ M.out).mono ?_; rintro e w5 ⟨rfl, x5⟩; replace M := Lib.hid (M.out.trans x5); have z2 : w5.cell? ⟨gp, 2, none⟩ = some (.bool false) := (B1.out.ext M.out).cell 2; have z2f : w5.frozen? ⟨gp, 2, none⟩ = false := (B1.out.ext M.out).frozen 2; clear x5))
      all_goals
        gi_wp2
        have m5 := (M1.out.ext M.out).here
        have f : Fr (fun b => b = gp) w5 (w5.setCell ⟨gp, 2, none⟩ (.bool db)) := Fr.setCell (S := fun b => b = gp) (p := ⟨gp, 2, none⟩) (Fr.refl _ w5) (Or.inl rfl) _
        have m6 := m5.turn f (fun b e => by rw [e]; exact q1 gp qp) (fun b e => by rw [e]; exact p0)
        have hK5 : w5.heap[D]? = some (.deferred (some [])) := (M.out.block D hDW).trans HKd.out
        have hK6 : (w5.setCell ⟨gp, 2, none⟩ (.bool db)).heap[D]? = some (.deferred (some [])) := (KeepsOthers.setCell w5 ⟨gp, 2, none⟩ (.bool db)).same D _ hK5 rfl
        refine ⟨by simp, .inl ⟨_, _, rfl, run_takeDeferred hK6, ?_⟩⟩
        have mg := m6.grown (grownBy_putObj' _ D (.deferred none)) (fun r e => by cases e; exact ⟨by omega, _, hK6, rfl⟩)
        refine ⟨_, results_none rfl _ _ _, ⟨_, rfl⟩, mg.less q1 (fun _ _ => rfl), by rw [← HPC.out, if_neg V0.out, HDb.out]; exact ((B1.out.ext M.out).set 2 _).putObj (show gp ≠ D by omega) _, fun b hq hne => ?_⟩
        have hb1 := hQlt b hq
        exact (World.putObj_heap_other (by omega)).trans ((f.block b (m5.lt.2 b (q1 b hq)) hne).trans ((M.out.block b (M1.out.lt.2 b (q1 b hq))).trans ((K1.out b (q1 b hq) hne).trans (hKQ.out b hq))))
end
end Go.Proofs.YtbicloceaddinaaGreat


/- Package retire: the steps of Reserve, Cancel, Stamp. Conditions: those that each theorem names. -/
namespace Go.Proofs.YtbicloceaddinaaGreat
open Go.ChangeShapes Go.WideShapes Go.ChangeAt Go.RowKit
set_option linter.unusedVariables false
theorem i64_wrap_rng (x : Int) : -9223372036854775808 ≤ IntKind.i64.wrap x ∧ IntKind.i64.wrap x < 9223372036854775808 := by
  unfold IntKind.wrap
  simp [IntKind.signed, IntKind.bits]
  omega
section
variable {Q : Nat → Prop} {w0 w : World} {gm gp gl : Nat} {dv pv : Value} {s : MSt} {F : Nat → Int} {t slot place part ep : Int} {dn : Bool}
set_option maxRecDepth 100000 in
set_option maxHeartbeats 4000000 in
theorem rvStep_done (h : IsMem Q w w0 w gm dv pv s) (hc : Calm s) (ok : Okay F) (hb : Blk w gp 195 (RvM.cells ⟨place, part, true⟩ gl t slot)) (hl : Blk w gl 173 (cellsF F)) (qp : Q gp) (ql : Q gl) (nlp : gl ≠ gp) (p0 : w0.heap.size ≤ gp) :
    Calls Tryz.prog 54 #[.pointer (some ⟨gp, 0, none⟩), .pointer (some ⟨gm, 0, none⟩)] w (StepPost Q w0 w gm gp 195 dv pv (s) true (RvM.cells ⟨place, part, true⟩ gl t slot)) := by
  have H := Lib.hid h
  have HB := Lib.hid hb
  have c2 : w.cell? ⟨gp, 2, none⟩ = some (.bool true) := hb.cell 2
  clear h hb hl hc ok
  go_enter Tryz.func54, Tryz.ntmps54
  go_wp2_with fail
  refine (doneReserve_ok _ gp true c2).mono ?_
  rintro e w' ⟨rfl, rfl⟩
  go_wp2_with fail
  go_ret
  exact ⟨rfl, H.out, HB.out, fun _ _ _ => rfl⟩
set_option maxRecDepth 100000 in
set_option maxHeartbeats 4000000 in
theorem stStep_done (h : IsMem Q w w0 w gm dv pv s) (hc : Calm s) (ok : Okay F) (hb : Blk w gp 203 (StM.cells ⟨part, ep, true⟩ gl t place slot)) (hl : Blk w gl 173 (cellsF F)) (qp : Q gp) (ql : Q gl) (nlp : gl ≠ gp) (p0 : w0.heap.size ≤ gp) :
    Calls Tryz.prog 62 #[.pointer (some ⟨gp, 0, none⟩), .pointer (some ⟨gm, 0, none⟩)] w (StepPost Q w0 w gm gp 203 dv pv (s) true (StM.cells ⟨part, ep, true⟩ gl t place slot)) := by
  have H := Lib.hid h
  have HB := Lib.hid hb
  have c2 : w.cell? ⟨gp, 2, none⟩ = some (.bool true) := hb.cell 2
  clear h hb hl hc ok
  go_enter Tryz.func62, Tryz.ntmps62
  go_wp2_with fail
  refine (doneStamp_ok _ gp true c2).mono ?_
  rintro e w' ⟨rfl, rfl⟩
  go_wp2_with fail
  go_ret
  exact ⟨rfl, H.out, HB.out, fun _ _ _ => rfl⟩
set_option maxRecDepth 100000 in
set_option maxHeartbeats 4000000 in
theorem cnStep_done (h : IsMem Q w w0 w gm dv pv s) (hc : Calm s) (ok : Okay F) (hb : Blk w gp 201 (cnCells gl t place true)) (hl : Blk w gl 173 (cellsF F)) (qp : Q gp) (ql : Q gl) (nlp : gl ≠ gp) (p0 : w0.heap.size ≤ gp) :
    Calls Tryz.prog 61 #[.pointer (some ⟨gp, 0, none⟩), .pointer (some ⟨gm, 0, none⟩)] w (StepPost Q w0 w gm gp 201 dv pv (s) true (cnCells gl t place true)) := by
  have H := Lib.hid h
  have HB := Lib.hid hb
  have c2 : w.cell? ⟨gp, 2, none⟩ = some (.bool true) := hb.cell 2
  clear h hb hl hc ok
  go_enter Tryz.func61, Tryz.ntmps61
  go_wp2_with fail
  refine (doneCancel_ok _ gp true c2).mono ?_
  rintro e w' ⟨rfl, rfl⟩
  go_wp2_with fail
  go_ret
  exact ⟨rfl, H.out, HB.out, fun _ _ _ => rfl⟩
set_option maxRecDepth 100000 in
set_option maxHeartbeats 4000000 in
theorem rvStep_1 (h : IsMem Q w w0 w gm dv pv s) (hc : Calm s) (ok : Okay F) (hs : I64 slot) (hb : Blk w gp 195 (RvM.cells ⟨place, 1, false⟩ gl t slot)) (hl : Blk w gl 173 (cellsF F)) (qp : Q gp) (ql : Q gl) (nlp : gl ≠ gp) (p0 : w0.heap.size ≤ gp) :
    Calls Tryz.prog 54 #[.pointer (some ⟨gp, 0, none⟩), .pointer (some ⟨gm, 0, none⟩)] w (StepPost Q w0 w gm gp 195 dv pv (s.store t (logN F t place) (entN slot (-1))) false (RvM.cells ⟨place, 2, false⟩ gl t slot)) := by
  have HPu : Hid (∀ W, Ext w W → Calls Tryz.prog 126 #[.pointer (some ⟨gp, 0, none⟩), .pointer (some ⟨gm, 0, none⟩), .int .u64 (entN slot (-1))] W fun e w' => (∃ u, e = .returned u) ∧ IsMem Q w' w0 w' gm dv pv (s.store t (logN F t place) (entN slot (-1))) ∧ Blk w' gp 195 (RvM.cells ⟨place, 2, false⟩ gl t slot) ∧ (∀ b, Q b → b ≠ gp → w'.heap[b]? = w.heap[b]?)) := Lib.hid (fun W x => (put_1 ((h.ext x).here) hc ok (entN slot (-1)) (entN_rng _ _) (hb.ext x) (hl.ext x) qp ql p0).mono (by rintro e w' ⟨hu, m, b, kk⟩; exact ⟨hu, m, b, fun q hq hn => (kk q hq hn).trans (x.block q (h.lt.2 q hq))⟩))
  have HEn : Hid (∀ W, Calls Tryz.prog 127 #[.int .i64 slot, .int .i64 (-1)] W fun e w' => e = .returned (.int .u64 (entN slot (-1))) ∧ Ext W w') := Lib.hid (fun W => entry_any slot (-1) hs.1 hs.2 (show -9223372036854775808 ≤ (-1 : Int) ∧ (-1 : Int) < 9223372036854775808 from ⟨by decide, by decide⟩).1 (show -9223372036854775808 ≤ (-1 : Int) ∧ (-1 : Int) < 9223372036854775808 from ⟨by decide, by decide⟩).2 W)
  have HP : Hid (∀ W, Ext w W → W.cell? ⟨gp, 5, none⟩ = some (.int .i64 slot)) := Lib.hid (fun W x => (hb.ext x).cell 5)
  have c2 : w.cell? ⟨gp, 2, none⟩ = some (.bool false) := hb.cell 2
  have c4 : w.cell? ⟨gp, 4, none⟩ = some (.int .i64 1) := hb.cell 4
  have M := Lib.hid ((Ext.refl w).drew)
  clear h hb hl hc ok 
  generalize s.store t (logN F t place) (entN slot (-1)) = s1 at *
  generalize entN slot (-1) = wd at *
  go_enter Tryz.func54, Tryz.ntmps54
  go_wp2_with fail
  refine (doneReserve_ok _ gp false c2).mono ?_
  rintro e w' ⟨rfl, rfl⟩
  go_wp2_with fail
  go_region_held3 (fun W => W.cell? ⟨gp, 5, none⟩ = some (.int .i64 slot)) (first | exact hS1 | exact HP.out _ M.out | go_keep) (first
    | (go_at_call 127; refine (HEn.out _).mono ?_; rintro e w1 ⟨rfl, x1⟩; replace M := Lib.hid (M.out.trans x1); clear x1)
    | (go_at_call 126; refine (HPu.out _ M.out).mono ?_; rintro e w1 ⟨⟨u, rfl⟩, m1, b1, k1⟩; have hS1 : w1.cell? ⟨gp, 5, none⟩ = some (.int .i64 slot) := b1.cell 5; have d2 : w1.cell? ⟨gp, 2, none⟩ = some (.bool false) := b1.cell 2; have M1 := Lib.hid m1; have B1 := Lib.hid b1; have K1 := Lib.hid k1; clear m1 b1 k1))
  all_goals
    clear hS1
    go_wp2_with fail
    go_ret
    exact ⟨rfl, M1.out, B1.out, K1.out⟩
set_option maxRecDepth 100000 in
set_option maxHeartbeats 4000000 in
theorem rvStep_2 (h : IsMem Q w w0 w gm dv pv s) (hc : Calm s) (ok : Okay F) (hs : I64 slot) {i : Nat} (hi : i ≤ 1000) (fine : Fine i s.dev) (hb : Blk w gp 195 (RvM.cells ⟨place, 2, false⟩ gl t slot)) (hl : Blk w gl 173 (cellsF F)) (qp : Q gp) (ql : Q gl) (nlp : gl ≠ gp) (p0 : w0.heap.size ≤ gp) :
    Calls Tryz.prog 54 #[.pointer (some ⟨gp, 0, none⟩), .pointer (some ⟨gm, 0, none⟩)] w (StepPost Q w0 w gm gp 195 dv pv (s.flush t (logN F t place)) false (RvM.cells ⟨place, 3, false⟩ gl t slot)) := by
  have HPu : Hid (∀ W, Ext w W → Calls Tryz.prog 126 #[.pointer (some ⟨gp, 0, none⟩), .pointer (some ⟨gm, 0, none⟩), .int .u64 (entN slot (-1))] W fun e w' => (∃ u, e = .returned u) ∧ IsMem Q w' w0 w' gm dv pv (s.flush t (logN F t place)) ∧ Blk w' gp 195 (RvM.cells ⟨place, 3, false⟩ gl t slot) ∧ (∀ b, Q b → b ≠ gp → w'.heap[b]? = w.heap[b]?)) := Lib.hid (fun W x => (put_2 ((h.ext x).here) hc ok (i := i) hi fine (entN slot (-1)) (entN_rng _ _) (hb.ext x) (hl.ext x) qp ql p0).mono (by rintro e w' ⟨hu, m, b, kk⟩; exact ⟨hu, m, b, fun q hq hn => (kk q hq hn).trans (x.block q (h.lt.2 q hq))⟩))
  have HEn : Hid (∀ W, Calls Tryz.prog 127 #[.int .i64 slot, .int .i64 (-1)] W fun e w' => e = .returned (.int .u64 (entN slot (-1))) ∧ Ext W w') := Lib.hid (fun W => entry_any slot (-1) hs.1 hs.2 (show -9223372036854775808 ≤ (-1 : Int) ∧ (-1 : Int) < 9223372036854775808 from ⟨by decide, by decide⟩).1 (show -9223372036854775808 ≤ (-1 : Int) ∧ (-1 : Int) < 9223372036854775808 from ⟨by decide, by decide⟩).2 W)
  have HP : Hid (∀ W, Ext w W → W.cell? ⟨gp, 5, none⟩ = some (.int .i64 slot)) := Lib.hid (fun W x => (hb.ext x).cell 5)
  have c2 : w.cell? ⟨gp, 2, none⟩ = some (.bool false) := hb.cell 2
  have c4 : w.cell? ⟨gp, 4, none⟩ = some (.int .i64 2) := hb.cell 4
  have M := Lib.hid ((Ext.refl w).drew)
  clear h hb hl hc ok fine
  generalize s.flush t (logN F t place) = s1 at *
  generalize entN slot (-1) = wd at *
  go_enter Tryz.func54, Tryz.ntmps54
  go_wp2_with fail
  refine (doneReserve_ok _ gp false c2).mono ?_
  rintro e w' ⟨rfl, rfl⟩
  go_wp2_with fail
  go_region_held3 (fun W => W.cell? ⟨gp, 5, none⟩ = some (.int .i64 slot)) (first | exact hS1 | exact HP.out _ M.out | go_keep) (first
    | (go_at_call 127; refine (HEn.out _).mono ?_; rintro e w1 ⟨rfl, x1⟩; replace M := Lib.hid (M.out.trans x1); clear x1)
    | (go_at_call 126; refine (HPu.out _ M.out).mono ?_; rintro e w1 ⟨⟨u, rfl⟩, m1, b1, k1⟩; have hS1 : w1.cell? ⟨gp, 5, none⟩ = some (.int .i64 slot) := b1.cell 5; have d2 : w1.cell? ⟨gp, 2, none⟩ = some (.bool false) := b1.cell 2; have M1 := Lib.hid m1; have B1 := Lib.hid b1; have K1 := Lib.hid k1; clear m1 b1 k1))
  all_goals
    clear hS1
    go_wp2_with fail
    go_ret
    exact ⟨rfl, M1.out, B1.out, K1.out⟩
set_option maxRecDepth 100000 in
set_option maxHeartbeats 4000000 in
theorem rvStep_3 (h : IsMem Q w w0 w gm dv pv s) (hc : Calm s) (ok : Okay F) (hs : I64 slot) {i : Nat} (hi : i ≤ 1000) (fine : Fine i s.dev) (hb : Blk w gp 195 (RvM.cells ⟨place, 3, false⟩ gl t slot)) (hl : Blk w gl 173 (cellsF F)) (qp : Q gp) (ql : Q gl) (nlp : gl ≠ gp) (p0 : w0.heap.size ≤ gp) :
    Calls Tryz.prog 54 #[.pointer (some ⟨gp, 0, none⟩), .pointer (some ⟨gm, 0, none⟩)] w (StepPost Q w0 w gm gp 195 dv pv (s.fence t) true (RvM.cells ⟨place, 4, true⟩ gl t slot)) := by
  have HPu : Hid (∀ W, Ext w W → Calls Tryz.prog 126 #[.pointer (some ⟨gp, 0, none⟩), .pointer (some ⟨gm, 0, none⟩), .int .u64 (entN slot (-1))] W fun e w' => (∃ u, e = .returned u) ∧ IsMem Q w' w0 w' gm dv pv (s.fence t) ∧ Blk w' gp 195 (RvM.cells ⟨place, 4, true⟩ gl t slot) ∧ (∀ b, Q b → b ≠ gp → w'.heap[b]? = w.heap[b]?)) := Lib.hid (fun W x => (put_3 ((h.ext x).here) hc ok (i := i) hi fine (entN slot (-1)) (entN_rng _ _) (hb.ext x) (hl.ext x) qp ql p0).mono (by rintro e w' ⟨hu, m, b, kk⟩; exact ⟨hu, m, b, fun q hq hn => (kk q hq hn).trans (x.block q (h.lt.2 q hq))⟩))
  have HEn : Hid (∀ W, Calls Tryz.prog 127 #[.int .i64 slot, .int .i64 (-1)] W fun e w' => e = .returned (.int .u64 (entN slot (-1))) ∧ Ext W w') := Lib.hid (fun W => entry_any slot (-1) hs.1 hs.2 (show -9223372036854775808 ≤ (-1 : Int) ∧ (-1 : Int) < 9223372036854775808 from ⟨by decide, by decide⟩).1 (show -9223372036854775808 ≤ (-1 : Int) ∧ (-1 : Int) < 9223372036854775808 from ⟨by decide, by decide⟩).2 W)
  have HP : Hid (∀ W, Ext w W → W.cell? ⟨gp, 5, none⟩ = some (.int .i64 slot)) := Lib.hid (fun W x => (hb.ext x).cell 5)
  have c2 : w.cell? ⟨gp, 2, none⟩ = some (.bool false) := hb.cell 2
  have c4 : w.cell? ⟨gp, 4, none⟩ = some (.int .i64 3) := hb.cell 4
  have M := Lib.hid ((Ext.refl w).drew)
  clear h hb hl hc ok fine
  generalize s.fence t = s1 at *
  generalize entN slot (-1) = wd at *
  go_enter Tryz.func54, Tryz.ntmps54
  go_wp2_with fail
  refine (doneReserve_ok _ gp false c2).mono ?_
  rintro e w' ⟨rfl, rfl⟩
  go_wp2_with fail
  go_region_held3 (fun W => W.cell? ⟨gp, 5, none⟩ = some (.int .i64 slot)) (first | exact hS1 | exact HP.out _ M.out | go_keep) (first
    | (go_at_call 127; refine (HEn.out _).mono ?_; rintro e w1 ⟨rfl, x1⟩; replace M := Lib.hid (M.out.trans x1); clear x1)
    | (go_at_call 126; refine (HPu.out _ M.out).mono ?_; rintro e w1 ⟨⟨u, rfl⟩, m1, b1, k1⟩; have hS1 : w1.cell? ⟨gp, 5, none⟩ = some (.int .i64 slot) := b1.cell 5; have d2 : w1.cell? ⟨gp, 2, none⟩ = some (.bool true) := b1.cell 2; have M1 := Lib.hid m1; have B1 := Lib.hid b1; have K1 := Lib.hid k1; clear m1 b1 k1))
  all_goals
    clear hS1
    go_wp2_with fail
    go_ret
    exact ⟨rfl, M1.out, B1.out, K1.out⟩
set_option maxRecDepth 100000 in
set_option maxHeartbeats 4000000 in
theorem stStep_1 (h : IsMem Q w w0 w gm dv pv s) (hc : Calm s) (ok : Okay F) (hs : I64 slot) {epi : Int} (hepi : IntKind.i64.wrap ep = epi) (hb : Blk w gp 203 (StM.cells ⟨1, ep, false⟩ gl t place slot)) (hl : Blk w gl 173 (cellsF F)) (qp : Q gp) (ql : Q gl) (nlp : gl ≠ gp) (p0 : w0.heap.size ≤ gp) :
    Calls Tryz.prog 62 #[.pointer (some ⟨gp, 0, none⟩), .pointer (some ⟨gm, 0, none⟩)] w (StepPost Q w0 w gm gp 203 dv pv (s.store t (logN F t place) (entN slot epi)) false (StM.cells ⟨2, ep, false⟩ gl t place slot)) := by
  have he : -9223372036854775808 ≤ epi ∧ epi < 9223372036854775808 := by rw [← hepi]; exact i64_wrap_rng ep
  have HPu : Hid (∀ W, Ext w W → Calls Tryz.prog 126 #[.pointer (some ⟨gp, 0, none⟩), .pointer (some ⟨gm, 0, none⟩), .int .u64 (entN slot epi)] W fun e w' => (∃ u, e = .returned u) ∧ IsMem Q w' w0 w' gm dv pv (s.store t (logN F t place) (entN slot epi)) ∧ Blk w' gp 203 (StM.cells ⟨2, ep, false⟩ gl t place slot) ∧ (∀ b, Q b → b ≠ gp → w'.heap[b]? = w.heap[b]?)) := Lib.hid (fun W x => (put_1 ((h.ext x).here) hc ok (entN slot epi) (entN_rng _ _) (hb.ext x) (hl.ext x) qp ql p0).mono (by rintro e w' ⟨hu, m, b, kk⟩; exact ⟨hu, m, b, fun q hq hn => (kk q hq hn).trans (x.block q (h.lt.2 q hq))⟩))
  have HEn : Hid (∀ W, Calls Tryz.prog 127 #[.int .i64 slot, .int .i64 epi] W fun e w' => e = .returned (.int .u64 (entN slot epi)) ∧ Ext W w') := Lib.hid (fun W => entry_any slot epi hs.1 hs.2 he.1 he.2 W)
  have HP : Hid (∀ W, Ext w W → W.cell? ⟨gp, 5, none⟩ = some (.int .i64 slot) ∧ W.cell? ⟨gp, 6, none⟩ = some (.int .u64 ep)) := Lib.hid (fun W x => ⟨(hb.ext x).cell 5, (hb.ext x).cell 6⟩)
  have c2 : w.cell? ⟨gp, 2, none⟩ = some (.bool false) := hb.cell 2
  have c4 : w.cell? ⟨gp, 4, none⟩ = some (.int .i64 1) := hb.cell 4
  have M := Lib.hid ((Ext.refl w).drew)
  clear h hb hl hc ok 
  generalize s.store t (logN F t place) (entN slot epi) = s1 at *
  generalize entN slot epi = wd at *
  go_enter Tryz.func62, Tryz.ntmps62
  go_wp2_with fail
  refine (doneStamp_ok _ gp false c2).mono ?_
  rintro e w' ⟨rfl, rfl⟩
  go_wp2_with fail
  go_region_held3 (fun W => W.cell? ⟨gp, 5, none⟩ = some (.int .i64 slot) ∧ W.cell? ⟨gp, 6, none⟩ = some (.int .u64 ep)) (first | exact hS1 | exact HP.out _ M.out | go_keep) (first
    | (go_at_call 127; refine (HEn.out _).mono ?_; rintro e w1 ⟨rfl, x1⟩; replace M := Lib.hid (M.out.trans x1); clear x1)
    | (go_at_call 126; refine (HPu.out _ M.out).mono ?_; rintro e w1 ⟨⟨u, rfl⟩, m1, b1, k1⟩; have hS1 : w1.cell? ⟨gp, 5, none⟩ = some (.int .i64 slot) ∧ w1.cell? ⟨gp, 6, none⟩ = some (.int .u64 ep) := ⟨b1.cell 5, b1.cell 6⟩; have d2 : w1.cell? ⟨gp, 2, none⟩ = some (.bool false) := b1.cell 2; have M1 := Lib.hid m1; have B1 := Lib.hid b1; have K1 := Lib.hid k1; clear m1 b1 k1))
  all_goals
    clear hS1
    go_wp2_with fail
    go_ret
    exact ⟨rfl, M1.out, B1.out, K1.out⟩
set_option maxRecDepth 100000 in
set_option maxHeartbeats 4000000 in
theorem stStep_2 (h : IsMem Q w w0 w gm dv pv s) (hc : Calm s) (ok : Okay F) (hs : I64 slot) {epi : Int} (hepi : IntKind.i64.wrap ep = epi) {i : Nat} (hi : i ≤ 1000) (fine : Fine i s.dev) (hb : Blk w gp 203 (StM.cells ⟨2, ep, false⟩ gl t place slot)) (hl : Blk w gl 173 (cellsF F)) (qp : Q gp) (ql : Q gl) (nlp : gl ≠ gp) (p0 : w0.heap.size ≤ gp) :
    Calls Tryz.prog 62 #[.pointer (some ⟨gp, 0, none⟩), .pointer (some ⟨gm, 0, none⟩)] w (StepPost Q w0 w gm gp 203 dv pv (s.flush t (logN F t place)) false (StM.cells ⟨3, ep, false⟩ gl t place slot)) := by
  have he : -9223372036854775808 ≤ epi ∧ epi < 9223372036854775808 := by rw [← hepi]; exact i64_wrap_rng ep
  have HPu : Hid (∀ W, Ext w W → Calls Tryz.prog 126 #[.pointer (some ⟨gp, 0, none⟩), .pointer (some ⟨gm, 0, none⟩), .int .u64 (entN slot epi)] W fun e w' => (∃ u, e = .returned u) ∧ IsMem Q w' w0 w' gm dv pv (s.flush t (logN F t place)) ∧ Blk w' gp 203 (StM.cells ⟨3, ep, false⟩ gl t place slot) ∧ (∀ b, Q b → b ≠ gp → w'.heap[b]? = w.heap[b]?)) := Lib.hid (fun W x => (put_2 ((h.ext x).here) hc ok (i := i) hi fine (entN slot epi) (entN_rng _ _) (hb.ext x) (hl.ext x) qp ql p0).mono (by rintro e w' ⟨hu, m, b, kk⟩; exact ⟨hu, m, b, fun q hq hn => (kk q hq hn).trans (x.block q (h.lt.2 q hq))⟩))
  have HEn : Hid (∀ W, Calls Tryz.prog 127 #[.int .i64 slot, .int .i64 epi] W fun e w' => e = .returned (.int .u64 (entN slot epi)) ∧ Ext W w') := Lib.hid (fun W => entry_any slot epi hs.1 hs.2 he.1 he.2 W)
  have HP : Hid (∀ W, Ext w W → W.cell? ⟨gp, 5, none⟩ = some (.int .i64 slot) ∧ W.cell? ⟨gp, 6, none⟩ = some (.int .u64 ep)) := Lib.hid (fun W x => ⟨(hb.ext x).cell 5, (hb.ext x).cell 6⟩)
  have c2 : w.cell? ⟨gp, 2, none⟩ = some (.bool false) := hb.cell 2
  have c4 : w.cell? ⟨gp, 4, none⟩ = some (.int .i64 2) := hb.cell 4
  have M := Lib.hid ((Ext.refl w).drew)
  clear h hb hl hc ok fine
  generalize s.flush t (logN F t place) = s1 at *
  generalize entN slot epi = wd at *
  go_enter Tryz.func62, Tryz.ntmps62
  go_wp2_with fail
  refine (doneStamp_ok _ gp false c2).mono ?_
  rintro e w' ⟨rfl, rfl⟩
  go_wp2_with fail
  go_region_held3 (fun W => W.cell? ⟨gp, 5, none⟩ = some (.int .i64 slot) ∧ W.cell? ⟨gp, 6, none⟩ = some (.int .u64 ep)) (first | exact hS1 | exact HP.out _ M.out | go_keep) (first
    | (go_at_call 127; refine (HEn.out _).mono ?_; rintro e w1 ⟨rfl, x1⟩; replace M := Lib.hid (M.out.trans x1); clear x1)
    | (go_at_call 126; refine (HPu.out _ M.out).mono ?_; rintro e w1 ⟨⟨u, rfl⟩, m1, b1, k1⟩; have hS1 : w1.cell? ⟨gp, 5, none⟩ = some (.int .i64 slot) ∧ w1.cell? ⟨gp, 6, none⟩ = some (.int .u64 ep) := ⟨b1.cell 5, b1.cell 6⟩; have d2 : w1.cell? ⟨gp, 2, none⟩ = some (.bool false) := b1.cell 2; have M1 := Lib.hid m1; have B1 := Lib.hid b1; have K1 := Lib.hid k1; clear m1 b1 k1))
  all_goals
    clear hS1
    go_wp2_with fail
    go_ret
    exact ⟨rfl, M1.out, B1.out, K1.out⟩
set_option maxRecDepth 100000 in
set_option maxHeartbeats 4000000 in
theorem stStep_3 (h : IsMem Q w w0 w gm dv pv s) (hc : Calm s) (ok : Okay F) (hs : I64 slot) {epi : Int} (hepi : IntKind.i64.wrap ep = epi) {i : Nat} (hi : i ≤ 1000) (fine : Fine i s.dev) (hb : Blk w gp 203 (StM.cells ⟨3, ep, false⟩ gl t place slot)) (hl : Blk w gl 173 (cellsF F)) (qp : Q gp) (ql : Q gl) (nlp : gl ≠ gp) (p0 : w0.heap.size ≤ gp) :
    Calls Tryz.prog 62 #[.pointer (some ⟨gp, 0, none⟩), .pointer (some ⟨gm, 0, none⟩)] w (StepPost Q w0 w gm gp 203 dv pv (s.fence t) true (StM.cells ⟨4, ep, true⟩ gl t place slot)) := by
  have he : -9223372036854775808 ≤ epi ∧ epi < 9223372036854775808 := by rw [← hepi]; exact i64_wrap_rng ep
  have HPu : Hid (∀ W, Ext w W → Calls Tryz.prog 126 #[.pointer (some ⟨gp, 0, none⟩), .pointer (some ⟨gm, 0, none⟩), .int .u64 (entN slot epi)] W fun e w' => (∃ u, e = .returned u) ∧ IsMem Q w' w0 w' gm dv pv (s.fence t) ∧ Blk w' gp 203 (StM.cells ⟨4, ep, true⟩ gl t place slot) ∧ (∀ b, Q b → b ≠ gp → w'.heap[b]? = w.heap[b]?)) := Lib.hid (fun W x => (put_3 ((h.ext x).here) hc ok (i := i) hi fine (entN slot epi) (entN_rng _ _) (hb.ext x) (hl.ext x) qp ql p0).mono (by rintro e w' ⟨hu, m, b, kk⟩; exact ⟨hu, m, b, fun q hq hn => (kk q hq hn).trans (x.block q (h.lt.2 q hq))⟩))
  have HEn : Hid (∀ W, Calls Tryz.prog 127 #[.int .i64 slot, .int .i64 epi] W fun e w' => e = .returned (.int .u64 (entN slot epi)) ∧ Ext W w') := Lib.hid (fun W => entry_any slot epi hs.1 hs.2 he.1 he.2 W)
  have HP : Hid (∀ W, Ext w W → W.cell? ⟨gp, 5, none⟩ = some (.int .i64 slot) ∧ W.cell? ⟨gp, 6, none⟩ = some (.int .u64 ep)) := Lib.hid (fun W x => ⟨(hb.ext x).cell 5, (hb.ext x).cell 6⟩)
  have c2 : w.cell? ⟨gp, 2, none⟩ = some (.bool false) := hb.cell 2
  have c4 : w.cell? ⟨gp, 4, none⟩ = some (.int .i64 3) := hb.cell 4
  have M := Lib.hid ((Ext.refl w).drew)
  clear h hb hl hc ok fine
  generalize s.fence t = s1 at *
  generalize entN slot epi = wd at *
  go_enter Tryz.func62, Tryz.ntmps62
  go_wp2_with fail
  refine (doneStamp_ok _ gp false c2).mono ?_
  rintro e w' ⟨rfl, rfl⟩
  go_wp2_with fail
  go_region_held3 (fun W => W.cell? ⟨gp, 5, none⟩ = some (.int .i64 slot) ∧ W.cell? ⟨gp, 6, none⟩ = some (.int .u64 ep)) (first | exact hS1 | exact HP.out _ M.out | go_keep) (first
    | (go_at_call 127; refine (HEn.out _).mono ?_; rintro e w1 ⟨rfl, x1⟩; replace M := Lib.hid (M.out.trans x1); clear x1)
    | (go_at_call 126; refine (HPu.out _ M.out).mono ?_; rintro e w1 ⟨⟨u, rfl⟩, m1, b1, k1⟩; have hS1 : w1.cell? ⟨gp, 5, none⟩ = some (.int .i64 slot) ∧ w1.cell? ⟨gp, 6, none⟩ = some (.int .u64 ep) := ⟨b1.cell 5, b1.cell 6⟩; have d2 : w1.cell? ⟨gp, 2, none⟩ = some (.bool true) := b1.cell 2; have M1 := Lib.hid m1; have B1 := Lib.hid b1; have K1 := Lib.hid k1; clear m1 b1 k1))
  all_goals
    clear hS1
    go_wp2_with fail
    go_ret
    exact ⟨rfl, M1.out, B1.out, K1.out⟩
set_option maxRecDepth 100000 in
set_option maxHeartbeats 4000000 in
theorem rvStep_0 (h : IsMem Q w w0 w gm dv pv s) (hc : Calm s) (ok : Okay F) (k m : Nat) (hk : k ≤ 500) (hm : m ≤ 500) (hm0 : 0 < m) (hL : F 2 = (k : Int) + (m : Int)) (hb : Blk w gp 195 (RvM.cells ⟨(k : Int), 0, false⟩ gl t slot)) (hl : Blk w gl 173 (cellsF F)) (qp : Q gp) (ql : Q gl) (nlp : gl ≠ gp) (p0 : w0.heap.size ≤ gp) :
    Calls Tryz.prog 54 #[.pointer (some ⟨gp, 0, none⟩), .pointer (some ⟨gm, 0, none⟩)] w (StepPost Q w0 w gm gp 195 dv pv (s.load t (logN F t k)) (if peekV s (logN F t k) = 0 then (⟨(k : Int), 1, false⟩ : RvM) else ⟨(k : Int) + 1, 0, decide (F 2 ≤ (k : Int) + 1)⟩).dn (RvM.cells (if peekV s (logN F t k) = 0 then ⟨(k : Int), 1, false⟩ else ⟨(k : Int) + 1, 0, decide (F 2 ≤ (k : Int) + 1)⟩) gl t slot)) := by
  have HL := Lib.hid (rlook_ok (slot := slot) h hc ok k m hk hm hm0 hL hb hl qp ql nlp p0)
  have c2 : w.cell? ⟨gp, 2, none⟩ = some (.bool false) := hb.cell 2
  have c4 : w.cell? ⟨gp, 4, none⟩ = some (.int .i64 0) := hb.cell 4
  generalize s.load t (logN F t k) = s1 at *
  generalize (if peekV s (logN F t k) = 0 then (⟨(k : Int), 1, false⟩ : RvM) else ⟨(k : Int) + 1, 0, decide (F 2 ≤ (k : Int) + 1)⟩) = x1 at *
  obtain ⟨p1, q1, d1⟩ := x1
  clear h hb hl hc ok hL
  go_enter Tryz.func54, Tryz.ntmps54
  go_wp2_with fail
  refine (doneReserve_ok _ gp false c2).mono ?_
  rintro e w' ⟨rfl, rfl⟩
  go_wp2_with fail
  refine HL.out.mono ?_
  rintro e w1 ⟨⟨u, rfl⟩, m1, b1, k1⟩
  have d2 : w1.cell? ⟨gp, 2, none⟩ = some (.bool d1) := b1.cell 2
  have M1 := Lib.hid m1
  have B1 := Lib.hid b1
  have K1 := Lib.hid k1
  clear m1 b1 k1
  go_wp2_with fail
  go_ret
  exact ⟨rfl, M1.out, B1.out, K1.out⟩
set_option maxRecDepth 100000 in
set_option maxHeartbeats 4000000 in
theorem stStep_0 (h : IsMem Q w w0 w gm dv pv s) (hc : Calm s) (ok : Okay F) (hF : F 21 = -1) (hb : Blk w gp 203 (StM.cells ⟨0, ep, false⟩ gl t place slot)) (hl : Blk w gl 173 (cellsF F)) (qp : Q gp) (ql : Q gl) (nlp : gl ≠ gp) (p0 : w0.heap.size ≤ gp) :
    Calls Tryz.prog 62 #[.pointer (some ⟨gp, 0, none⟩), .pointer (some ⟨gm, 0, none⟩)] w (StepPost Q w0 w gm gp 203 dv pv (s.load t (-1)) false (StM.cells ⟨1, peekV s (-1), false⟩ gl t place slot)) := by
  have HK : Hid (∀ W s', IsMem Q w w0 W gm dv pv s' → Blk W gp 203 (StM.cells ⟨0, ep, false⟩ gl t place slot) ∧ Blk W gl 173 (cellsF F)) := Lib.hid (fun W s' m => ⟨(m.keptQ gp qp).trans hb, (m.keptQ gl ql).trans hl⟩)
  have HP : Hid (∀ W s', IsMem Q w w0 W gm dv pv s' → W.cell? ⟨gp, 0, none⟩ = some (.pointer (some ⟨gl, 0, none⟩)) ∧ W.cell? ⟨gp, 1, none⟩ = some (.int .i64 t)) := Lib.hid (fun W s' m => ⟨((HK.out W s' m).1).cell 0, ((HK.out W s' m).1).cell 1⟩)
  have HP2 : Hid (∀ W s' u, IsMem Q w w0 W gm dv pv s' → (W.setCell ⟨gp, 6, none⟩ u).cell? ⟨gp, 0, none⟩ = some (.pointer (some ⟨gl, 0, none⟩)) ∧ (W.setCell ⟨gp, 6, none⟩ u).cell? ⟨gp, 1, none⟩ = some (.int .i64 t)) := Lib.hid (fun W s' u m => ⟨(((HK.out W s' m).1).set 6 u).cell 0, (((HK.out W s' m).1).set 6 u).cell 1⟩)
  have HEp : Hid (∀ W s', IsMem Q w w0 W gm dv pv s' → Calls Tryz.prog 132 #[.pointer (some ⟨gl, 0, none⟩)] W fun e w' => e = .returned (.int .i64 (-1)) ∧ Ext W w') := Lib.hid (fun W s' m => tEpoch_m1 gl W (HK.out W s' m).2 hF)
  have HL : Hid (∀ W, IsMem Q w w0 W gm dv pv s → Calls Tryz.prog 69 #[.pointer (some ⟨gm, 0, none⟩), .int .i64 t, .int .i64 (-1)] W fun e w' => e = .returned (.int .u64 (peekV s (-1))) ∧ IsMem Q w w0 w' gm dv pv (s.load t (-1))) := Lib.hid (fun W m => memLoad_ok m t (-1) (by decide) (by decide) hc)
  have M := Lib.hid (h.ext ((Ext.refl w).drew))
  generalize peekV s (-1) = v at *
  generalize s.load t (-1) = s1 at *
  have c2 : w.cell? ⟨gp, 2, none⟩ = some (.bool false) := hb.cell 2
  have c4 : w.cell? ⟨gp, 4, none⟩ = some (.int .i64 0) := hb.cell 4
  have c0 : w.cell? ⟨gp, 0, none⟩ = some (.pointer (some ⟨gl, 0, none⟩)) := hb.cell 0
  clear h hb hl hF hc ok
  go_enter Tryz.func62, Tryz.ntmps62
  go_wp2_with fail
  refine (doneStamp_ok _ gp false c2).mono ?_
  rintro e w' ⟨rfl, rfl⟩
  go_wp2_with fail
  go_region_held3 (fun W => W.cell? ⟨gp, 0, none⟩ = some (.pointer (some ⟨gl, 0, none⟩)) ∧ W.cell? ⟨gp, 1, none⟩ = some (.int .i64 t)) (first | exact HP.out _ _ M.out | exact HP2.out _ _ _ M.out | go_keep) (first
    | (go_at_call 132; refine (HEp.out _ _ M.out).mono ?_; rintro e w1 ⟨rfl, x1⟩; replace M := Lib.hid (M.out.ext x1); clear x1)
    | (go_at_call 69; refine (HL.out _ M.out).mono ?_; rintro e w1 ⟨rfl, m1⟩; replace M := Lib.hid m1; have y6 : w1.cell? ⟨gp, 6, none⟩ = some (.int .u64 ep) := ((HK.out _ _ m1).1).cell 6; have z6 : w1.frozen? ⟨gp, 6, none⟩ = false := ((HK.out _ _ m1).1).frozen 6; clear m1))
  all_goals
    have y4 : w1.cell? ⟨gp, 4, none⟩ = some (.int .i64 0) := ((HK.out _ _ M.out).1).cell 4
    have z4 : w1.frozen? ⟨gp, 4, none⟩ = false := ((HK.out _ _ M.out).1).frozen 4
    have k4 : (w1.setCell ⟨gp, 6, none⟩ (.int .u64 v)).cell? ⟨gp, 4, none⟩ = some (.int .i64 0) := (((HK.out _ _ M.out).1).set 6 _).cell 4
    have f4 : (w1.setCell ⟨gp, 6, none⟩ (.int .u64 v)).frozen? ⟨gp, 4, none⟩ = false := (((HK.out _ _ M.out).1).set 6 _).frozen 4
    have k2 : ((w1.setCell ⟨gp, 6, none⟩ (.int .u64 v)).setCell ⟨gp, 4, none⟩ (.int .i64 1)).cell? ⟨gp, 2, none⟩ = some (.bool false) := ((((HK.out _ _ M.out).1).set 6 _).set 4 _).cell 2
    go_wp2_with fail
    have f : Fr (fun b => b = gp) w1 ((w1.setCell ⟨gp, 6, none⟩ (.int .u64 v)).setCell ⟨gp, 4, none⟩ (.int .i64 1)) := Fr.setCell (S := fun b => b = gp) (p := ⟨gp, 4, none⟩) (Fr.setCell (S := fun b => b = gp) (p := ⟨gp, 6, none⟩) (Fr.refl _ w1) (Or.inl rfl) _) (Or.inl rfl) _
    go_ret
    refine ⟨rfl, M.out.turn f (fun b e => by rw [e]; exact qp) (fun b e => by rw [e]; exact p0), (((HK.out _ _ M.out).1).set 6 _).set 4 _, fun b hb hne => ?_⟩
    exact (f.block b (M.out.lt.2 b hb) hne).trans (M.out.keptQ b hb)
set_option maxRecDepth 100000 in
set_option maxHeartbeats 4000000 in
theorem cnStep_0 (h : IsMem Q w w0 w gm dv pv s) (hc : Calm s) (ok : Okay F) (hb : Blk w gp 201 (cnCells gl t place false)) (hl : Blk w gl 173 (cellsF F)) (qp : Q gp) (ql : Q gl) (nlp : gl ≠ gp) (p0 : w0.heap.size ≤ gp) :
    Calls Tryz.prog 61 #[.pointer (some ⟨gp, 0, none⟩), .pointer (some ⟨gm, 0, none⟩)] w (StepPost Q w0 w gm gp 201 dv pv (s.store t (logN F t place) 0) true (cnCells gl t place true)) := by
  have HK : Hid (∀ W s', IsMem Q w w0 W gm dv pv s' → Blk W gp 201 (cnCells gl t place false) ∧ Blk W gl 173 (cellsF F)) := Lib.hid (fun W s' m => ⟨(m.keptQ gp qp).trans hb, (m.keptQ gl ql).trans hl⟩)
  have HP : Hid (∀ W s', IsMem Q w w0 W gm dv pv s' → W.cell? ⟨gp, 0, none⟩ = some (.pointer (some ⟨gl, 0, none⟩)) ∧ W.cell? ⟨gp, 1, none⟩ = some (.int .i64 t) ∧ W.cell? ⟨gp, 3, none⟩ = some (.int .i64 place)) := Lib.hid (fun W s' m => ⟨((HK.out W s' m).1).cell 0, ((HK.out W s' m).1).cell 1, ((HK.out W s' m).1).cell 3⟩)
  have har := logN_rng ok t place
  have HEn : Hid (∀ W s', IsMem Q w w0 W gm dv pv s' → Calls Tryz.prog 131 #[.pointer (some ⟨gp, 0, none⟩), .int .i64 place] W fun e w' => e = .returned (.int .i64 (logN F t place)) ∧ Ext W w') := Lib.hid (fun W s' m => entry_ok ok gp gl t place W (HK.out W s' m).2 (HP.out W s' m).1 (HP.out W s' m).2.1)
  have HL : Hid (∀ W, IsMem Q w w0 W gm dv pv s → Calls Tryz.prog 49 #[.pointer (some ⟨gm, 0, none⟩), .int .i64 t, .int .i64 (logN F t place), .int .u64 0] W fun e w' => (∃ u, e = .returned u) ∧ IsMem Q w w0 w' gm dv pv (s.store t (logN F t place) 0)) := Lib.hid (fun W m => memStore_ok m t _ 0 har.1 har.2 ⟨by decide, by decide⟩ hc)
  have M := Lib.hid (h.ext ((Ext.refl w).drew))
  clear har
  generalize s.store t (logN F t place) 0 = s1 at *
  generalize logN F t place = a at *
  have c2 : w.cell? ⟨gp, 2, none⟩ = some (.bool false) := hb.cell 2
  have c0 : w.cell? ⟨gp, 0, none⟩ = some (.pointer (some ⟨gl, 0, none⟩)) := hb.cell 0
  clear h hb hl hc ok
  go_enter Tryz.func61, Tryz.ntmps61
  go_wp2_with fail
  refine (doneCancel_ok _ gp false c2).mono ?_
  rintro e w' ⟨rfl, rfl⟩
  go_wp2_with fail
  go_region_held3 (fun W => W.cell? ⟨gp, 0, none⟩ = some (.pointer (some ⟨gl, 0, none⟩)) ∧ W.cell? ⟨gp, 1, none⟩ = some (.int .i64 t) ∧ W.cell? ⟨gp, 3, none⟩ = some (.int .i64 place)) (first | exact HP.out _ _ M.out | go_keep) (first
    | (go_at_call 131; refine (HEn.out _ _ M.out).mono ?_; rintro e w1 ⟨rfl, x1⟩; replace M := Lib.hid (M.out.ext x1); clear x1)
    | (go_at_call 49; refine (HL.out _ M.out).mono ?_; rintro e w1 ⟨⟨u, rfl⟩, m1⟩; replace M := Lib.hid m1; clear m1))
  all_goals
    have y2 : w1.cell? ⟨gp, 2, none⟩ = some (.bool false) := ((HK.out _ _ M.out).1).cell 2
    have z2 : w1.frozen? ⟨gp, 2, none⟩ = false := ((HK.out _ _ M.out).1).frozen 2
    go_wp2_with fail
    have f : Fr (fun b => b = gp) w1 (w1.setCell ⟨gp, 2, none⟩ (.bool true)) := Fr.setCell (S := fun b => b = gp) (p := ⟨gp, 2, none⟩) (Fr.refl _ w1) (Or.inl rfl) _
    go_ret
    refine ⟨rfl, M.out.turn f (fun b e => by rw [e]; exact qp) (fun b e => by rw [e]; exact p0), ((HK.out _ _ M.out).1).set 2 _, fun b hb hne => ?_⟩
    exact (f.block b (M.out.lt.2 b hb) hne).trans (M.out.keptQ b hb)
end
end Go.Proofs.YtbicloceaddinaaGreat

