/- Package retire: Reclaim, each step. Conditions: those that each theorem names. -/
import Derived.Test.YtbicloceaddinaaGreatKRetB
namespace Go.Proofs.YtbicloceaddinaaGreat
open Go.ChangeShapes Go.WideShapes Go.ChangeAt Go.RowKit Go.Shelf
set_option linter.unusedVariables false
attribute [local go_sem] Oper.semAt_some
theorem over_ok (w : World) (gp : Nat) (ep v : Int) (hv : W64 v) (c4 : w.cell? ⟨gp, 4, none⟩ = some (.int .u64 ep)) :
    Calls Tryz.prog 187 #[.pointer (some ⟨gp, 0, none⟩), .int .u64 v] w fun e w' => e = .returned (.bool (overB ep v)) ∧ Ext w w' := by
  have HTo : Hid (∀ W, Calls Tryz.prog 129 #[.int .u64 v] W fun e w' => e = .returned (.int .i64 (toN v)) ∧ Ext W w') := Lib.hid (fun W => to_any v hv.1 hv.2 W)
  have HSp : Hid (∀ W, Calls Tryz.prog 215 #[.int .u64 v] W fun e w' => e = .returned (.int .i64 (verN v - 1)) ∧ Ext W w') := Lib.hid (fun W => stamp_any v hv.1 hv.2 W)
  have HR : Hid (overB ep v = ((toN v != -1) && ((verN v - 1 != -1) && decide (verN v - 1 + 2 ≤ ep)))) := Lib.hid rfl
  have hr := verN_rng hv
  have HC := Lib.hid (fun W (x : Ext w W) => cellE c4 x)
  generalize overB ep v = r at *
  generalize toN v = a at *
  obtain ⟨b, hb⟩ : ∃ b, verN v - 1 = b := ⟨_, rfl⟩
  have hb2 : -1 ≤ b ∧ b < 4294967295 := by omega
  rw [hb] at HSp HR
  clear hv c4 hr hb
  go_enter Tryz.func187, Tryz.ntmps187
  go_wp2_with fail
  refine (HTo.out _).mono ?_
  rintro e w1 ⟨rfl, x1⟩
  go_wp2_with fail
  refine (HSp.out _).mono ?_
  rintro e w2 ⟨rfl, x2⟩
  have X2 := Lib.hid (x1.trans x2)
  have c4 : w2.cell? ⟨gp, 4, none⟩ = some (.int .u64 ep) := HC.out w2 X2.out
  clear x1 x2 HC HTo HSp
  by_cases ha : a = -1
  · have d1 : (a != -1) = false := by simp [ha]
    obtain rfl : r = false := by rw [HR.out, d1]; rfl
    clear ha
    go_wp2_with fail
    go_ret
    exact ⟨rfl, X2.out⟩
  · have d1 : (a != -1) = true := by rw [bne_iff_ne]; exact ha
    by_cases hbn : b = -1
    · have d2 : (b != -1) = false := by simp [hbn]
      obtain rfl : r = false := by rw [HR.out, d1, d2]; rfl
      clear ha hbn
      go_wp2_with fail
      go_ret
      exact ⟨rfl, X2.out⟩
    · have d2 : (b != -1) = true := by rw [bne_iff_ne]; exact hbn
      have w1' : IntKind.u64.wrap b = b := u64w _ (by omega) (by omega)
      have w2' : IntKind.u64.wrap (b + 2) = b + 2 := u64w _ (by omega) (by omega)
      have HR2 : Hid (r = decide (b + 2 ≤ ep)) := Lib.hid (by rw [HR.out, d1, d2]; rfl)
      clear ha hbn
      go_wp2_with fail
      go_ret
      exact ⟨by rw [HR2.out]; rfl, X2.out⟩
section
variable {Q : Nat → Prop} {w0 w : World} {gm gp gl : Nat} {dv pv : Value} {s : MSt} {F : Nat → Int} {t ep sl ct : Int} {dn : Bool}
set_option maxRecDepth 100000 in
set_option maxHeartbeats 2000000 in
theorem goOn_ok (x : RcM) (p : Int) (hb : Blk w gp 206 (x.cells gl t)) (hl : Blk w gl 173 (cellsF F)) (nlp : gl ≠ gp) :
    Calls Tryz.prog 133 #[.pointer (some ⟨gp, 0, none⟩), .int .i64 p] w fun e w' => (∃ u, e = .returned u) ∧ Fr (fun b => b = gp) w w' ∧ Blk w' gp 206 ((x.goOn F p).cells gl t) := by
  obtain ⟨dn, part, ep, place, slot, push, count⟩ := x
  have b1 := hb.set 5 (.int .i64 p)
  have b2 := b1.set 3 (.int .i64 1)
  have f1 : Fr (fun b => b = gp) w (w.setCell ⟨gp, 5, none⟩ (.int .i64 p)) := Fr.setCell (S := fun b => b = gp) (p := ⟨gp, 5, none⟩) (Fr.refl _ w) (Or.inl rfl) _
  have f2 : Fr (fun b => b = gp) w ((w.setCell ⟨gp, 5, none⟩ (.int .i64 p)).setCell ⟨gp, 3, none⟩ (.int .i64 1)) := Fr.setCell (S := fun b => b = gp) (p := ⟨gp, 3, none⟩) f1 (Or.inl rfl) _
  have l2 : Blk ((w.setCell ⟨gp, 5, none⟩ (.int .i64 p)).setCell ⟨gp, 3, none⟩ (.int .i64 1)) gl 173 (cellsF F) := hl.fr f2 nlp
  have c5 : w.cell? ⟨gp, 5, none⟩ = some (.int .i64 place) := hb.cell 5
  have z5 : w.frozen? ⟨gp, 5, none⟩ = false := hb.frozen 5
  have c3 : (w.setCell ⟨gp, 5, none⟩ (.int .i64 p)).cell? ⟨gp, 3, none⟩ = some (.int .i64 part) := b1.cell 3
  have z3 : (w.setCell ⟨gp, 5, none⟩ (.int .i64 p)).frozen? ⟨gp, 3, none⟩ = false := b1.frozen 3
  have B2 := Lib.hid b2
  have F2 := Lib.hid f2
  have HBe := Lib.hid (behind_ok gp gl p _ l2 (b2.cell 0))
  have HG : Hid (RcM.goOn F ⟨dn, part, ep, place, slot, push, count⟩ p = ⟨decide (F 2 ≤ p), 1, ep, p, slot, push, count⟩) := Lib.hid rfl
  generalize RcM.goOn F ⟨dn, part, ep, place, slot, push, count⟩ p = g at *
  generalize decide (F 2 ≤ p) = d at *
  clear hb hl b1 b2 f1 f2 l2
  go_enter Tryz.func133, Tryz.ntmps133
  go_upto_region 2 with fail
  generalize (w.setCell ⟨gp, 5, none⟩ (.int .i64 p)).setCell ⟨gp, 3, none⟩ (.int .i64 1) = w2 at *
  clear c5 z5 c3 z3
  go_wp2_with fail
  refine HBe.out.mono ?_
  rintro e w3 ⟨rfl, x3⟩
  have B3 := Lib.hid (B2.out.ext x3)
  have F3 := Lib.hid (F2.out.then_ext x3)
  have c2 : w3.cell? ⟨gp, 2, none⟩ = some (.bool dn) := B3.out.cell 2
  have z2 : w3.frozen? ⟨gp, 2, none⟩ = false := B3.out.frozen 2
  clear x3 B2 F2
  go_wp2_with fail
  refine bodyPost_end (results_none rfl _ _ _) rfl ?_
  rw [HG.out]
  exact ⟨⟨_, rfl⟩, Fr.setCell (S := fun b => b = gp) (p := ⟨gp, 2, none⟩) F3.out (Or.inl rfl) _, B3.out.set 2 _⟩
set_option maxRecDepth 100000 in
set_option maxHeartbeats 8000000 in
theorem clook_ok (h : IsMem Q w w0 w gm dv pv s) (hc : Calm s) (ok : Okay F) (k m : Nat) (hk : k ≤ 500) (hm : m ≤ 500) (hm0 : 0 < m) (hL : F 2 = (k : Int) + (m : Int)) (hb : Blk w gp 206 (RcM.cells ⟨false, 1, ep, (k : Int), sl, none, ct⟩ gl t)) (hl : Blk w gl 173 (cellsF F)) (qp : Q gp) (ql : Q gl) (nlp : gl ≠ gp) (p0 : w0.heap.size ≤ gp) :
    Calls Tryz.prog 134 #[.pointer (some ⟨gp, 0, none⟩), .pointer (some ⟨gm, 0, none⟩)] w fun e w' => (∃ u, e = .returned u) ∧ IsMem Q w' w0 w' gm dv pv (s.load t (logN F t k)) ∧ Blk w' gp 206 (RcM.cells (if overB ep (peekV s (logN F t k)) = true then ⟨false, 2, ep, (k : Int), toN (peekV s (logN F t k)), none, ct⟩ else RcM.goOn F ⟨false, 1, ep, (k : Int), sl, none, ct⟩ ((k : Int) + 1)) gl t) ∧ (∀ b, Q b → b ≠ gp → w'.heap[b]? = w.heap[b]?) := by
  obtain ⟨PC, hPC⟩ : ∃ PC : List Value, (RcM.cells (if overB ep (peekV s (logN F t k)) = true then ⟨false, 2, ep, (k : Int), toN (peekV s (logN F t k)), none, ct⟩ else RcM.goOn F ⟨false, 1, ep, (k : Int), sl, none, ct⟩ ((k : Int) + 1)) gl t) = PC := ⟨_, rfl⟩
  rw [hPC]
  have HPC := Lib.hid hPC
  clear hPC
  have x0 := ((Ext.refl w).alloc (.cells #[.pointer (some ⟨gp, 0, none⟩)] 39)).alloc (.cells #[.pointer (some ⟨gm, 0, none⟩)] 31)
  have f0 := (Blk.new w 39 [.pointer (some ⟨gp, 0, none⟩)]).ext ((Ext.refl _).alloc (.cells #[.pointer (some ⟨gm, 0, none⟩)] 31))
  have f1 := Blk.new (w.alloc (.cells #[.pointer (some ⟨gp, 0, none⟩)] 39)) 31 [.pointer (some ⟨gm, 0, none⟩)]
  have hsz : ((w.alloc (.cells #[.pointer (some ⟨gp, 0, none⟩)] 39)).alloc (.cells #[.pointer (some ⟨gm, 0, none⟩)] 31)).heap.size = w.heap.size + 2 := by simp
  simp only [World.size_alloc] at f1
  have hgp := hb.lt
  have hgl := hl.lt
  have hw0 : w0.heap.size ≤ w.heap.size := h.lt.1.size
  have HP : Hid (∀ W, Ext ((w.alloc (.cells #[.pointer (some ⟨gp, 0, none⟩)] 39)).alloc (.cells #[.pointer (some ⟨gm, 0, none⟩)] 31)) W → W.cell? ⟨w.heap.size, 0, none⟩ = some (.pointer (some ⟨gp, 0, none⟩)) ∧ W.cell? ⟨gp, 0, none⟩ = some (.pointer (some ⟨gl, 0, none⟩)) ∧ W.cell? ⟨gp, 1, none⟩ = some (.int .i64 t) ∧ W.cell? ⟨gp, 5, none⟩ = some (.int .i64 k)) := Lib.hid (fun W x => ⟨(f0.ext x).cell 0, (hb.ext (x0.trans x)).cell 0, (hb.ext (x0.trans x)).cell 1, (hb.ext (x0.trans x)).cell 5⟩)
  have F0 := Lib.hid f0
  have F1 := Lib.hid f1
  have X0 := Lib.hid x0
  have HSZ := Lib.hid hsz
  have HH := Lib.hid h
  have HBb := Lib.hid hb
  have HLl := Lib.hid hl
  have HOk := Lib.hid ok
  have HCc := Lib.hid hc
  have HTt := Lib.hid hL
  clear h hb hl ok hc hL f0 f1 x0 hsz
  refine (callsIn_wide (n := 6)).1 ?_
  refine callsIn_of_wp_marks Tryz.func134 rfl trivial ?_ rfl
  simp only [Tryz.ntmps134, List.size_toArray, List.length_cons, List.length_nil, Nat.reduceAdd, Nat.reduceSub, Array.replicate_succ, Array.replicate_zero, List.push_toArray, List.append_toArray, List.nil_append, List.cons_append]
  gi_wp2
  generalize ((w.alloc (.cells #[.pointer (some ⟨gp, 0, none⟩)] 39)).alloc (.cells #[.pointer (some ⟨gm, 0, none⟩)] 31)) = W2 at *
  obtain ⟨y0, y1, y2, y3⟩ := HP.out W2 (Ext.refl _)
  have M := Lib.hid ((Ext.refl W2).drew)
  refine wpIn_wide.2 ?_
  go_region_held3 (fun W => W.cell? ⟨w.heap.size, 0, none⟩ = some (.pointer (some ⟨gp, 0, none⟩)) ∧ W.cell? ⟨gp, 0, none⟩ = some (.pointer (some ⟨gl, 0, none⟩)) ∧ W.cell? ⟨gp, 1, none⟩ = some (.int .i64 t) ∧ W.cell? ⟨gp, 5, none⟩ = some (.int .i64 k)) (first | exact HP.out _ M.out | go_keep) (first
    | (go_at_call 128; refine (entries_ok gl t (k : Int) _).mono ?_; rintro e w1 ⟨hh, rfl, eb⟩; have MM := Lib.hid M.out; have EB := Lib.hid eb; replace M := Lib.hid (M.out.trans eb.x); clear eb))
  clear y0 y1 y2 y3
  have hlo : w.heap.size + 2 ≤ hh := by
    have h1 := EB.out.lo
    have h2 := MM.out.size
    have h3 := HSZ.out
    omega
  have hs4 : w1.heap.size = hh + 3 := EB.out.sz
  replace F0 := Lib.hid (F0.out.ext M.out)
  replace F1 := Lib.hid (F1.out.ext M.out)
  replace X0 := Lib.hid (X0.out.trans M.out)
  clear HSZ MM
  obtain ⟨Q1, hQ1⟩ : ∃ Q1 : Nat → Prop, Q1 = fun g => Q g ∨ g = w.heap.size ∨ g = w.heap.size + 1 ∨ g = hh ∨ g = hh + 1 ∨ g = hh + 1 + 1 := ⟨_, rfl⟩
  have q1 : ∀ g, Q g → Q1 g := fun g hg => by rw [hQ1]; exact Or.inl hg
  have qa : Q1 w.heap.size := by rw [hQ1]; exact Or.inr (Or.inl rfl)
  have qb : Q1 (w.heap.size + 1) := by rw [hQ1]; exact Or.inr (Or.inr (Or.inl rfl))
  have qd : Q1 (hh + 1 + 1) := by rw [hQ1]; exact Or.inr (Or.inr (Or.inr (Or.inr (Or.inr rfl))))
  have M4 : Hid (IsMem Q1 w1 w0 w1 gm dv pv s) := Lib.hid (HH.out.hold X0.out (fun g hg => by
    rw [hQ1] at hg
    rcases hg with e | e | e | e | e | e
    · exact ⟨Nat.lt_of_lt_of_le (HH.out.lt.2 g e) X0.out.size, Or.inl e⟩
    all_goals exact ⟨by omega, Or.inr (by omega)⟩))
  have bP := Lib.hid (HBb.out.ext X0.out)
  have bL := Lib.hid (HLl.out.ext X0.out)
  have hQlt : ∀ g, Q g → g < w.heap.size := HH.out.lt.2
  have hQ1lt : ∀ g, Q1 g → g < w1.heap.size := M4.out.lt.2
  have hKQ : Hid (∀ b, Q b → w1.heap[b]? = w.heap[b]?) := Lib.hid (fun b hb => X0.out.block b (hQlt b hb))
  clear hQ1
  have MW : Hid (∀ W, Below w1.heap.size w1 W → IsMem (fun g => Q1 g ∨ (w1.heap.size ≤ g ∧ g < W.heap.size)) W w0 W gm dv pv s) := Lib.hid (fun W hB => M4.out.hold (Ext.of hB) (fun g hg => by
    rcases hg with e | e
    · exact ⟨Nat.lt_of_lt_of_le (M4.out.lt.2 g e) hB.size, Or.inl e⟩
    · exact ⟨e.2, Or.inr e.1⟩))
  have hSlt : ∀ g, (g = hh + 1 + 1 ∨ g = hh ∨ g = hh + 1 ∨ g = gl) → g < w1.heap.size := fun g hg => by rcases hg with rfl | rfl | rfl | rfl <;> omega
  have grow : Hid (∀ W w2 : World, w1.heap.size ≤ W.heap.size → (∀ g, (Q1 g ∨ (w1.heap.size ≤ g ∧ g < W.heap.size)) → g < w2.heap.size) → W.heap.size ≤ w2.heap.size) := Lib.hid (fun W w2 hs hk => by
    rcases Nat.lt_or_ge w1.heap.size W.heap.size with hlt | hge
    · have := hk (W.heap.size - 1) (Or.inr ⟨by omega, by omega⟩)
      omega
    · have := hk (hh + 1 + 1) (Or.inl qd)
      omega)
  gi_wp2
  refine wpIn_rangeFunc_ownG rfl (by decide) (gf := 183) (lb := #[.pointer (some ⟨hh + 1 + 1, 0, none⟩), .pointer (some ⟨hh, 0, none⟩), .pointer (some ⟨hh + 1, 0, none⟩)]) rfl trivial (enters_of Tryz.func183 (by kernel_rfl) rfl)
    (ent_stops (6 - 1) (by decide) (hh + 1 + 1) hh (hh + 1) gl k m (by omega) (by omega) w1 F HOk.out t (F 2) HTt.out rfl (fun g => g = hh + 1 + 1 ∨ g = hh ∨ g = hh + 1 ∨ g = gl) (Or.inl rfl) (Or.inr (Or.inl rfl)) (Or.inr (Or.inr (Or.inl rfl))) (Or.inr (Or.inr (Or.inr rfl))) hSlt EB.out.b2 EB.out.b0 EB.out.b1 bL.out)
    (fun h k => KeepE.trans h k) (fun W l _ o' hl _ _ _ => KeepE.putObj (B := w1.heap.size) hSlt W l o' hl) (Below.refl _ _) (fun _ => rfl)
    (fun (pre : List (Fin m)) W => pre = [] ∧ Below w1.heap.size w1 W)
    (fun c (pre : List (Fin m)) W => ∃ x : Fin m, pre = [x] ∧ IsMem Q1 W w0 W gm dv pv (s.load t (logN F t ((k : Int) + (x.val : Int)))) ∧ (∀ b, Q1 b → b ≠ gp → W.heap[b]? = w1.heap[b]?) ∧ (c = .ret ∧ ((overB ep (peekV s (logN F t ((k : Int) + (x.val : Int)))) = true ∧ Blk W gp 206 (RcM.cells ⟨false, 2, ep, (k : Int), toN (peekV s (logN F t ((k : Int) + (x.val : Int)))), none, ct⟩ gl t)) ∨ (overB ep (peekV s (logN F t ((k : Int) + (x.val : Int)))) = false ∧ Blk W gp 206 ((RcM.goOn F ⟨false, 1, ep, (k : Int), sl, none, ct⟩ (((k : Int) + (x.val : Int)) + 1)).cells gl t)))))
    (OwnFrom.and (ownFrom_pure _ (fun pre => pre = [])) (ownFrom_below (Nat.le_refl _) (Nat.le_refl _)))
    (fun c => by
      rintro pre A B row ⟨x, e1, m1, k1, ex⟩ hg hr
      have hne : ∀ b, b < w1.heap.size → some b ≠ row := fun b hb e => by
        have := (hr b e.symm).1
        omega
      have hG : B.heap[gp]? = A.heap[gp]? := hg.block gp (m1.lt.2 gp (q1 gp qp)) (hne gp (by omega))
      refine ⟨x, e1, m1.grown hg (fun r e => ⟨by have := (hr r e).1; omega, (hr r e).2⟩), fun b hq hn => (hg.block b (m1.lt.2 b hq) (hne b (by have := hQ1lt b hq; omega))).trans (k1 b hq hn), ?_⟩
      obtain ⟨e2, ex⟩ := ex
      rcases ex with ⟨e3, b1⟩ | ⟨e3, b1⟩
      · exact ⟨e2, Or.inl ⟨e3, hG.trans b1⟩⟩
      · exact ⟨e2, Or.inr ⟨e3, hG.trans b1⟩⟩)
    ⟨rfl, Below.refl _ _⟩
    (fun x => { tmps := #[.pointer (some ⟨gp, 0, none⟩), .pointer (some ⟨gm, 0, none⟩), .pointer (some ⟨w.heap.size, 0, none⟩), .pointer (some ⟨w.heap.size + 1, 0, none⟩), .int .i64 ((k : Int) + (x.val : Int)), .int .i64 (logN F t ((k : Int) + (x.val : Int))), undef, .pointer (some ⟨gp, 0, none⟩), .pointer (some ⟨gp, 0, none⟩), .pointer (some ⟨gp, 0, none⟩), .pointer (some ⟨gp, 0, none⟩), .pointer (some ⟨gl, 0, none⟩), .pointer (some ⟨gp, 0, none⟩), .pointer (some ⟨gp, 0, none⟩), .pointer (some ⟨gp, 0, none⟩), .pointer (some ⟨gp, 1, none⟩), .int .i64 t, .pointer (some ⟨gp, 0, none⟩), .pointer (some ⟨gp, 0, none⟩), .pointer (some ⟨gp, 5, none⟩), .int .i64 k, .func (.func 183) #[] #[.pointer (some ⟨hh + 1 + 1, 0, none⟩), .pointer (some ⟨hh, 0, none⟩), .pointer (some ⟨hh + 1, 0, none⟩)], .int .i64 ((k : Int) + (x.val : Int)), .int .i64 (logN F t ((k : Int) + (x.val : Int))), undef, undef, undef, undef, undef, undef, undef, undef, undef, undef, undef, undef, undef, undef, undef, undef, undef, undef, undef, undef, undef, undef, undef, undef], defers := [] }) ?assign ?body ?done ?stop
  case assign =>
    intro l x W K hK
    gi_wp2
    exact hK
  case body =>
    rintro l pre x W ⟨rfl, hB⟩ hlt
    have hxm := x.isLt
    have hlr := logN_rng HOk.out t ((k : Int) + (x.val : Int))
    have HLd : Hid (∀ W', Ext W W' → CallsIn (Fence.wide.inRound l) 3 Tryz.prog 69 #[.pointer (some ⟨gm, 0, none⟩), .int .i64 t, .int .i64 (logN F t ((k : Int) + (x.val : Int)))] W' fun e w' => e = .returned (.int .u64 (peekV s (logN F t ((k : Int) + (x.val : Int))))) ∧ IsMem (fun g => Q1 g ∨ (w1.heap.size ≤ g ∧ g < W.heap.size)) W w0 w' gm dv pv (s.load t (logN F t ((k : Int) + (x.val : Int))))) := Lib.hid (fun W' x => CallsIn.inRound l (callsIn_wide.2 (memLoad_ok ((MW.out W hB).ext x) t _ hlr.1 hlr.2 HCc.out)))
    have y0 : W.cell? ⟨w.heap.size, 0, none⟩ = some (.pointer (some ⟨gp, 0, none⟩)) := Blk.cell ((hB.block _ (by omega)).trans F0.out) 0
    have y1 : W.cell? ⟨w.heap.size + 1, 0, none⟩ = some (.pointer (some ⟨gm, 0, none⟩)) := Blk.cell ((hB.block _ (by omega)).trans F1.out) 0
    have y2 : W.cell? ⟨gp, 1, none⟩ = some (.int .i64 t) := Blk.cell ((hB.block gp (by omega)).trans bP.out) 1
    have hWu : True := trivial
    have BP : Hid (Blk W gp 206 (RcM.cells ⟨false, 1, ep, (k : Int), sl, none, ct⟩ gl t)) := Lib.hid ((hB.block gp (by omega)).trans bP.out)
    have F0W : Hid (Blk W w.heap.size 39 [.pointer (some ⟨gp, 0, none⟩)]) := Lib.hid ((hB.block _ (by omega)).trans F0.out)
    have F1W : Hid (Blk W (w.heap.size + 1) 31 [.pointer (some ⟨gm, 0, none⟩)]) := Lib.hid ((hB.block _ (by omega)).trans F1.out)
    have BLW : Hid (Blk W gl 173 (cellsF F)) := Lib.hid ((hB.block gl (by omega)).trans bL.out)
    have HBw := Lib.hid hB
    have HV := Lib.hid ((MW.out W hB).peekU (logN F t ((k : Int) + (x.val : Int))))
    clear hB hlr hWu
    obtain ⟨v, hv⟩ : ∃ v, (peekV s (logN F t ((k : Int) + (x.val : Int)))) = v := ⟨_, rfl⟩
    obtain ⟨s1, es1⟩ : ∃ s1, s.load t (logN F t ((k : Int) + (x.val : Int))) = s1 := ⟨_, rfl⟩
    rw [hv, es1] at HLd
    rw [hv] at HV
    have EV := Lib.hid hv
    have ES1 := Lib.hid es1
    clear hv es1
    gi_wp2
    gi_region_with (refine ⟨trivial, ?_⟩; gi_at_call 69; refine (HLd.out _ ((Ext.refl _).drew)).mono ?_; rintro e w2 ⟨rfl, m2⟩; have M2 := Lib.hid m2; clear m2)
    all_goals
      have hwW : w1.heap.size ≤ W.heap.size := HBw.out.size
      have kW : Hid (∀ b, (Q1 b ∨ (w1.heap.size ≤ b ∧ b < W.heap.size)) → w2.heap[b]? = W.heap[b]?) := Lib.hid (fun b hb => M2.out.keptQ b hb)
      have kk : Hid (∀ b, Q1 b → w2.heap[b]? = w1.heap[b]?) := Lib.hid (fun b hb => (kW.out b (Or.inl hb)).trans (HBw.out.block b (hQ1lt b hb)))
      have B2 : Hid (Blk w2 gp 206 (RcM.cells ⟨false, 1, ep, (k : Int), sl, none, ct⟩ gl t)) := Lib.hid ((kW.out gp (Or.inl (q1 gp qp))).trans BP.out)
      have L2 : Hid (Blk w2 gl 173 (cellsF F)) := Lib.hid ((kW.out gl (Or.inl (q1 gl ql))).trans BLW.out)
      have F2 : Hid (Blk w2 w.heap.size 39 [.pointer (some ⟨gp, 0, none⟩)]) := Lib.hid ((kW.out _ (Or.inl qa)).trans F0W.out)
      have z0 : w2.cell? ⟨w.heap.size, 0, none⟩ = some (.pointer (some ⟨gp, 0, none⟩)) := F2.out.cell 0
      have hkf : Hid (KeepsFrom w1.heap.size W w2) := Lib.hid ⟨grow.out W w2 hwW M2.out.lt.2, fun j o hj ho _ => (kW.out j (Or.inr ⟨hj, (Array.getElem?_eq_some_iff.1 ho).1⟩)).trans ho⟩
      clear y0 y1 y2
      have HOv : Hid (∀ W', Ext w2 W' → CallsIn (Fence.wide.inRound l) 3 Tryz.prog 187 #[.pointer (some ⟨gp, 0, none⟩), .int .u64 v] W' fun e w' => e = .returned (.bool (overB ep v)) ∧ Ext W' w') := Lib.hid (fun W' x => CallsIn.inRound l (callsIn_wide.2 (over_ok W' gp ep v HV.out ((B2.out.ext x).cell 4))))
      have HGo : Hid (∀ W', Ext w2 W' → CallsIn (Fence.wide.inRound l) 3 Tryz.prog 133 #[.pointer (some ⟨gp, 0, none⟩), .int .i64 (((k : Int) + (x.val : Int)) + 1)] W' fun e w' => (∃ u, e = .returned u) ∧ Fr (fun b => b = gp) W' w' ∧ Blk w' gp 206 ((RcM.goOn F ⟨false, 1, ep, (k : Int), sl, none, ct⟩ (((k : Int) + (x.val : Int)) + 1)).cells gl t)) := Lib.hid (fun W' x => CallsIn.inRound l (callsIn_wide.2 (goOn_ok _ _ (B2.out.ext x) (L2.out.ext x) nlp)))
      have HTo : Hid (∀ W', CallsIn (Fence.wide.inRound l) 3 Tryz.prog 129 #[.int .u64 v] W' fun e w' => e = .returned (.int .i64 (toN v)) ∧ Ext W' w') := Lib.hid (fun W' => CallsIn.inRound l (callsIn_wide.2 (to_any v HV.out.1 HV.out.2 W')))
      have wn : IntKind.i64.wrap (((k : Int) + (x.val : Int)) + 1) = ((k : Int) + (x.val : Int)) + 1 := i64w _ (by omega) (by omega)
      obtain ⟨ov, hov⟩ : ∃ ov, overB ep v = ov := ⟨_, rfl⟩
      rw [hov] at HOv
      have EOv := Lib.hid hov
      clear hov
      cases ov
      · gi_wp2_with (first
          | (refine ⟨trivial, ?_⟩; gi_at_call 187; refine (HOv.out _ (Ext.refl _)).mono ?_; rintro e w3 ⟨rfl, x3⟩; have X3 := Lib.hid x3; have z3 : w3.cell? ⟨w.heap.size, 0, none⟩ = some (.pointer (some ⟨gp, 0, none⟩)) := (F2.out.ext x3).cell 0; clear x3)
          | (refine ⟨trivial, ?_⟩; gi_at_call 133; refine (HGo.out _ X3.out).mono ?_; rintro e w4 ⟨⟨u, rfl⟩, f4, b4⟩; have FF4 := Lib.hid f4; have B4 := Lib.hid b4; clear f4 b4))
        have mx := (M2.out.ext X3.out).here
        have m4 := mx.turn FF4.out (fun b e => by rw [e]; exact Or.inl (q1 gp qp)) (fun b e => by rw [e]; exact p0)
        refine ⟨hkf.out.trans ⟨Nat.le_trans X3.out.size FF4.out.size, fun j o hj ho _ => ((FF4.out.block j (Nat.lt_of_lt_of_le (Array.getElem?_eq_some_iff.1 ho).1 X3.out.size) (by omega)).trans (X3.out.block j (Array.getElem?_eq_some_iff.1 ho).1)).trans ho⟩, x, rfl, ?_, fun b hq hn => (FF4.out.block b (Nat.lt_of_lt_of_le (M2.out.lt.2 b (Or.inl hq)) X3.out.size) hn).trans ((X3.out.block b (M2.out.lt.2 b (Or.inl hq))).trans (kk.out b hq)), rfl, Or.inr ⟨by rw [EV.out]; exact EOv.out, B4.out⟩⟩
        rw [ES1.out]
        exact m4.less (fun g hg => Or.inl hg) (fun b hb => rfl)
      · gi_wp2_with (refine ⟨trivial, ?_⟩; gi_at_call 187; refine (HOv.out _ (Ext.refl _)).mono ?_; rintro e w3 ⟨rfl, x3⟩; have X3 := Lib.hid x3; have z3 : w3.cell? ⟨w.heap.size, 0, none⟩ = some (.pointer (some ⟨gp, 0, none⟩)) := (F2.out.ext x3).cell 0; clear x3)
        have B3 := Lib.hid (B2.out.ext X3.out)
        have F3 := Lib.hid (F2.out.ext X3.out)
        gi_region_with (refine ⟨trivial, ?_⟩; gi_at_call 129; refine (HTo.out _).mono ?_; rintro e w4 ⟨rfl, x4⟩; have X4 := Lib.hid ((Ext.refl w3).drew.trans x4); have z4 : w4.cell? ⟨w.heap.size, 0, none⟩ = some (.pointer (some ⟨gp, 0, none⟩)) := (F3.out.ext X4.out).cell 0; have y6 : w4.cell? ⟨gp, 6, none⟩ = some (.int .i64 sl) := (B3.out.ext X4.out).cell 6; have z6 : w4.frozen? ⟨gp, 6, none⟩ = false := (B3.out.ext X4.out).frozen 6; clear x4)
        all_goals
          have B4 := Lib.hid (B3.out.ext X4.out)
          have F4 := Lib.hid (F3.out.ext X4.out)
          have b5 := B4.out.set 6 (.int .i64 (toN v))
          have y3 : (w4.setCell ⟨gp, 6, none⟩ (.int .i64 (toN v))).cell? ⟨gp, 3, none⟩ = some (.int .i64 1) := b5.cell 3
          have z3' : (w4.setCell ⟨gp, 6, none⟩ (.int .i64 (toN v))).frozen? ⟨gp, 3, none⟩ = false := b5.frozen 3
          have y0 : (w4.setCell ⟨gp, 6, none⟩ (.int .i64 (toN v))).cell? ⟨w.heap.size, 0, none⟩ = some (.pointer (some ⟨gp, 0, none⟩)) := (F4.out.far (by show w.heap.size ≠ gp; omega) _).cell 0
          clear b5
          gi_wp2
          have f : Fr (fun b => b = gp) w4 ((w4.setCell ⟨gp, 6, none⟩ (.int .i64 (toN v))).setCell ⟨gp, 3, none⟩ (.int .i64 2)) := Fr.setCell (S := fun b => b = gp) (p := ⟨gp, 3, none⟩) (Fr.setCell (S := fun b => b = gp) (p := ⟨gp, 6, none⟩) (Fr.refl _ w4) (Or.inl rfl) _) (Or.inl rfl) _
          have X24 : Ext w2 w4 := X3.out.trans X4.out
          have mx := (M2.out.ext X24).here
          have m4 := mx.turn f (fun b e => by rw [e]; exact Or.inl (q1 gp qp)) (fun b e => by rw [e]; exact p0)
          refine ⟨hkf.out.trans ⟨Nat.le_trans X24.size f.size, fun j o hj ho _ => ((f.block j (Nat.lt_of_lt_of_le (Array.getElem?_eq_some_iff.1 ho).1 X24.size) (by omega)).trans (X24.block j (Array.getElem?_eq_some_iff.1 ho).1)).trans ho⟩, x, rfl, ?_, fun b hq hn => (f.block b (Nat.lt_of_lt_of_le (M2.out.lt.2 b (Or.inl hq)) X24.size) hn).trans ((X24.block b (M2.out.lt.2 b (Or.inl hq))).trans (kk.out b hq)), rfl, Or.inl ⟨by rw [EV.out]; exact EOv.out, by rw [EV.out]; exact (B4.out.set 6 _).set 3 _⟩⟩
          rw [ES1.out]
          exact m4.less (fun g hg => Or.inl hg) (fun b hb => rfl)
  case done =>
    rintro D xs W hD rfl ⟨hnil, hB⟩ hK
    obtain rfl : m = 0 := by
      have := congrArg List.length hnil
      simpa using this
    omega
  case stop =>
    rintro D c pre W hD ⟨j, hj⟩ ⟨x, rfl, m1, k1, ex⟩ hK
    have hxm := x.isLt
    have hx0 : x.val = 0 := by
      have h1 : ([x] : List (Fin m))[0]? = ((List.finRange m).take j)[0]? := by rw [hj]
      rw [List.getElem?_take] at h1
      split at h1
      · have h2 : (List.finRange m)[0]? = some ⟨0, by omega⟩ := by
          rw [List.getElem?_eq_getElem (by simp; omega)]
          simp
        rw [h2] at h1
        simp at h1
        rw [h1]
      · simp at h1
    rw [hx0, show (k : Int) + ((0 : Nat) : Int) = k by omega] at m1 ex
    have M1 := Lib.hid m1
    have K1 := Lib.hid k1
    have HKd := Lib.hid hK
    have hDW : D < W.heap.size := (Array.getElem?_eq_some_iff.1 hK).1
    have hgW : gp < W.heap.size := m1.lt.2 gp (q1 gp qp)
    clear m1 k1 hK hj
    obtain ⟨rfl, ex⟩ := ex
    have ex2 : Blk W gp 206 (RcM.cells (if overB ep (peekV s (logN F t k)) = true then ⟨false, 2, ep, (k : Int), toN (peekV s (logN F t k)), none, ct⟩ else RcM.goOn F ⟨false, 1, ep, (k : Int), sl, none, ct⟩ ((k : Int) + 1)) gl t) := by
      rcases ex with ⟨e3, b1⟩ | ⟨e3, b1⟩
      · rw [if_pos e3]
        exact b1
      · rw [if_neg (by rw [e3]; decide)]
        exact b1
    have B1 := Lib.hid ex2
    clear ex ex2
    gi_wp2
    refine ⟨by simp, .inl ⟨_, _, rfl, run_takeDeferred HKd.out, ?_⟩⟩
    have mg := M1.out.grown (grownBy_putObj' W D (.deferred none)) (fun r e => by cases e; exact ⟨by omega, _, HKd.out, rfl⟩)
    refine ⟨_, results_none rfl _ _ _, ⟨_, rfl⟩, mg.less q1 (fun _ _ => rfl), by rw [← HPC.out]; exact B1.out.putObj (show gp ≠ D by omega) _, fun b hq hne => ?_⟩
    have hb1 := hQlt b hq
    exact (World.putObj_heap_other (by omega)).trans ((K1.out b (q1 b hq) hne).trans (hKQ.out b hq))

/-- What else a Reclaim has: the block of its Push. -/
def RcM.ownB (x : RcM) (b : Nat) : Prop := ∃ q, x.push = some q ∧ b = q.1
set_option maxRecDepth 100000 in
set_option maxHeartbeats 4000000 in
theorem empty_ok (h : IsMem Q w w0 w gm dv pv s) (hc : Calm s) (ok : Okay F) (p : Int) (hb : Blk w gp 206 (RcM.cells ⟨false, 2, ep, p, sl, none, ct⟩ gl t)) (hl : Blk w gl 173 (cellsF F)) (qp : Q gp) (ql : Q gl) (nlp : gl ≠ gp) (p0 : w0.heap.size ≤ gp) :
    Calls Tryz.prog 135 #[.pointer (some ⟨gp, 0, none⟩), .pointer (some ⟨gm, 0, none⟩)] w fun e w' => (∃ u, e = .returned u) ∧ ∃ g, (¬ Q g ∧ w0.heap.size ≤ g) ∧ IsMem (fun b => Q b ∨ b = g) w' w0 w' gm dv pv (s.store t (logN F t p) 0) ∧ Blk w' gp 206 (RcM.cells ⟨false, 3, ep, p, sl, some (g, ⟨0, 0, sl, false⟩), ct⟩ gl t) ∧ Blk w' g 259 (PMs.cells ⟨0, 0, sl, false⟩ gl t) ∧ (∀ b, Q b → b ≠ gp → w'.heap[b]? = w.heap[b]?) := by
  have HK : Hid (∀ W s', IsMem Q w w0 W gm dv pv s' → Blk W gp 206 (RcM.cells ⟨false, 2, ep, p, sl, none, ct⟩ gl t) ∧ Blk W gl 173 (cellsF F)) := Lib.hid (fun W s' m => ⟨(m.keptQ gp qp).trans hb, (m.keptQ gl ql).trans hl⟩)
  have HP : Hid (∀ W s', IsMem Q w w0 W gm dv pv s' → W.cell? ⟨gp, 0, none⟩ = some (.pointer (some ⟨gl, 0, none⟩)) ∧ W.cell? ⟨gp, 1, none⟩ = some (.int .i64 t) ∧ W.cell? ⟨gp, 5, none⟩ = some (.int .i64 p)) := Lib.hid (fun W s' m => ⟨((HK.out W s' m).1).cell 0, ((HK.out W s' m).1).cell 1, ((HK.out W s' m).1).cell 5⟩)
  have har := logN_rng ok t p
  have HEn : Hid (∀ W s', IsMem Q w w0 W gm dv pv s' → Calls Tryz.prog 131 #[.pointer (some ⟨gp, 0, none⟩), .int .i64 p] W fun e w' => e = .returned (.int .i64 (logN F t p)) ∧ Ext W w') := Lib.hid (fun W s' m => entry_ok ok gp gl t p W (HK.out W s' m).2 (HP.out W s' m).1 (HP.out W s' m).2.1)
  have HL : Hid (∀ W, IsMem Q w w0 W gm dv pv s → Calls Tryz.prog 49 #[.pointer (some ⟨gm, 0, none⟩), .int .i64 t, .int .i64 (logN F t p), .int .u64 0] W fun e w' => (∃ u, e = .returned u) ∧ IsMem Q w w0 w' gm dv pv (s.store t (logN F t p) 0)) := Lib.hid (fun W m => memStore_ok m t _ 0 har.1 har.2 ⟨by decide, by decide⟩ hc)
  have M := Lib.hid (h.ext ((Ext.refl w).drew))
  have hlt := h.lt.2
  clear har
  generalize s.store t (logN F t p) 0 = s1 at *
  generalize logN F t p = a at *
  have c0 : w.cell? ⟨gp, 0, none⟩ = some (.pointer (some ⟨gl, 0, none⟩)) := hb.cell 0
  clear h hb hl hc ok
  go_enter Tryz.func135, Tryz.ntmps135
  go_wp2_with fail
  go_region_held3 (fun W => W.cell? ⟨gp, 0, none⟩ = some (.pointer (some ⟨gl, 0, none⟩)) ∧ W.cell? ⟨gp, 1, none⟩ = some (.int .i64 t) ∧ W.cell? ⟨gp, 5, none⟩ = some (.int .i64 p)) (first | exact HP.out _ _ M.out | go_keep) (first
    | (go_at_call 131; refine (HEn.out _ _ M.out).mono ?_; rintro e w1 ⟨rfl, x1⟩; replace M := Lib.hid (M.out.ext x1); clear x1)
    | (go_at_call 49; refine (HL.out _ M.out).mono ?_; rintro e w1 ⟨⟨u, rfl⟩, m1⟩; replace M := Lib.hid m1; clear m1))
  all_goals
    clear c0
    have B1 := Lib.hid (HK.out _ _ M.out).1
    have HP1 : Hid (∀ W, Ext w1 W → W.cell? ⟨gp, 0, none⟩ = some (.pointer (some ⟨gl, 0, none⟩)) ∧ W.cell? ⟨gp, 1, none⟩ = some (.int .i64 t) ∧ W.cell? ⟨gp, 6, none⟩ = some (.int .i64 sl)) := Lib.hid (fun W x => ⟨(B1.out.ext x).cell 0, (B1.out.ext x).cell 1, (B1.out.ext x).cell 6⟩)
    have HP1s : Hid (∀ W u, Ext w1 W → (W.setCell ⟨gp, 7, none⟩ u).cell? ⟨gp, 0, none⟩ = some (.pointer (some ⟨gl, 0, none⟩)) ∧ (W.setCell ⟨gp, 7, none⟩ u).cell? ⟨gp, 1, none⟩ = some (.int .i64 t) ∧ (W.setCell ⟨gp, 7, none⟩ u).cell? ⟨gp, 6, none⟩ = some (.int .i64 sl)) := Lib.hid (fun W u x => ⟨((B1.out.ext x).set 7 u).cell 0, ((B1.out.ext x).set 7 u).cell 1, ((B1.out.ext x).set 7 u).cell 6⟩)
    have X := Lib.hid ((Ext.refl w1).drew)
    go_wp2_with fail
    go_region_held3 (fun W => W.cell? ⟨gp, 0, none⟩ = some (.pointer (some ⟨gl, 0, none⟩)) ∧ W.cell? ⟨gp, 1, none⟩ = some (.int .i64 t) ∧ W.cell? ⟨gp, 6, none⟩ = some (.int .i64 sl)) (first | exact HP1.out _ X.out | exact HP1s.out _ _ X.out | go_keep) (first
      | (go_at_call 188; refine (newPush_ok _ gl t sl).mono ?_; rintro e w2 ⟨g, rfl, lg, bg, xg⟩; have LG := Lib.hid (Nat.le_trans X.out.size lg); have BG := Lib.hid bg; replace X := Lib.hid (X.out.trans xg); have y7 : w2.cell? ⟨gp, 7, none⟩ = some (.pointer none) := (B1.out.ext X.out).cell 7; have z7 : w2.frozen? ⟨gp, 7, none⟩ = false := (B1.out.ext X.out).frozen 7; clear bg xg lg))
    all_goals
      have B2 := Lib.hid (B1.out.ext X.out)
      have b3 := B2.out.set 7 (.pointer (some ⟨g, 0, none⟩))
      have y3 : (w2.setCell ⟨gp, 7, none⟩ (.pointer (some ⟨g, 0, none⟩))).cell? ⟨gp, 3, none⟩ = some (.int .i64 2) := b3.cell 3
      have z3 : (w2.setCell ⟨gp, 7, none⟩ (.pointer (some ⟨g, 0, none⟩))).frozen? ⟨gp, 3, none⟩ = false := b3.frozen 3
      clear b3
      have hgw : gp < w1.heap.size := B1.out.lt
      have hw1 : w0.heap.size ≤ w1.heap.size := M.out.lt.1.size
      have hnq : ¬ Q g := fun hq => by have h1 := M.out.lt.2 g hq; have h2 := LG.out; omega
      have hgg : g ≠ gp := by have := LG.out; omega
      have m2 := M.out.here.hold (Q' := fun b => Q b ∨ b = g) X.out (fun b hb => by
        rcases hb with hb | hb
        · exact ⟨Nat.lt_of_lt_of_le (M.out.lt.2 b hb) X.out.size, Or.inl hb⟩
        · rw [hb]
          exact ⟨BG.out.lt, Or.inr LG.out⟩)
      have M2 := Lib.hid m2
      clear m2
      go_wp2_with fail
      have f : Fr (fun b => b = gp) w2 ((w2.setCell ⟨gp, 7, none⟩ (.pointer (some ⟨g, 0, none⟩))).setCell ⟨gp, 3, none⟩ (.int .i64 3)) := Fr.setCell (S := fun b => b = gp) (p := ⟨gp, 3, none⟩) (Fr.setCell (S := fun b => b = gp) (p := ⟨gp, 7, none⟩) (Fr.refl _ w2) (Or.inl rfl) _) (Or.inl rfl) _
      refine bodyPost_end (results_none rfl _ _ _) rfl ?_
      refine ⟨⟨_, rfl⟩, g, ⟨hnq, Nat.le_trans hw1 LG.out⟩, M2.out.turn f (fun b e => by rw [e]; exact Or.inl qp) (fun b e => by rw [e]; exact p0), (B2.out.set 7 _).set 3 _, BG.out.fr f hgg, fun b hb hne => ?_⟩
      exact (f.block b (M2.out.lt.2 b (Or.inl hb)) hne).trans ((X.out.block b (M.out.lt.2 b hb)).trans (M.out.keptQ b hb))
set_option maxRecDepth 100000 in
set_option maxHeartbeats 4000000 in
theorem give_ok {gq : Nat} {y : PMs} (h : IsMem (fun b => Q b ∨ b = gq) w w0 w gm dv pv s) (hc : Calm s) (ok : Okay F) (hF : F 22 = -2) (hy : y.Wf) (p : Int) (hp : 0 ≤ p ∧ p ≤ 1000) (hct : 0 ≤ ct ∧ ct ≤ 1000) (hb : Blk w gp 206 (RcM.cells ⟨false, 3, ep, p, sl, some (gq, y), ct⟩ gl t)) (hbq : Blk w gq 259 (y.cells gl t)) (hl : Blk w gl 173 (cellsF F)) (qp : Q gp) (ql : Q gl) (nlp : gl ≠ gp) (nq : ¬ Q gq) (p0 : w0.heap.size ≤ gp) (p0q : w0.heap.size ≤ gq) :
    Calls Tryz.prog 136 #[.pointer (some ⟨gp, 0, none⟩), .pointer (some ⟨gm, 0, none⟩)] w fun e w' => (∃ u, e = .returned u) ∧ IsMem (fun b => Q b ∨ b = gq) w' w0 w' gm dv pv (pushS F t y s).2 ∧ Blk w' gp 206 (RcM.cells (if (pushS F t y s).1.dn = true then RcM.goOn F ⟨false, 3, ep, p, sl, none, ct + 1⟩ (p + 1) else ⟨false, 3, ep, p, sl, some (gq, (pushS F t y s).1), ct⟩) gl t) ∧ Blk w' gq 259 ((pushS F t y s).1.cells gl t) ∧ (∀ b, Q b → b ≠ gp → w'.heap[b]? = w.heap[b]?) := by
  have hne : gp ≠ gq := fun e => nq (e ▸ qp)
  have HS := Lib.hid (pushStep_ok h hc ok hy hbq hl hF (Or.inr rfl) (Or.inl ql) p0q)
  have HL := Lib.hid hl
  have HB := Lib.hid hb
  have hlt := h.lt.2
  have c7 : w.cell? ⟨gp, 7, none⟩ = some (.pointer (some ⟨gq, 0, none⟩)) := hb.cell 7
  generalize pushS F t y s = X at *
  obtain ⟨y', s'⟩ := X
  obtain ⟨part', top', yy', dn'⟩ := y'
  have wp : IntKind.i64.wrap (p + 1) = p + 1 := i64w _ (by omega) (by omega)
  have wc : IntKind.i64.wrap (ct + 1) = ct + 1 := i64w _ (by omega) (by omega)
  clear h hb hl hbq hc ok hF hy
  go_enter Tryz.func136, Tryz.ntmps136
  go_wp2_with fail
  refine HS.out.mono ?_
  rintro e w1 ⟨rfl, m1, b1, k1⟩
  have M1 := Lib.hid m1
  have B1 := Lib.hid b1
  have K1 := Lib.hid k1
  have G1 : Hid (Blk w1 gp 206 (RcM.cells ⟨false, 3, ep, p, sl, some (gq, y), ct⟩ gl t)) := Lib.hid ((k1 gp (Or.inl qp) hne).trans HB.out)
  have L1 : Hid (Blk w1 gl 173 (cellsF F)) := Lib.hid ((k1 gl (Or.inl ql) (fun e => nq (e ▸ ql))).trans HL.out)
  clear m1 b1 k1 HS c7 HB HL
  simp only
  cases dn'
  · go_wp2_with fail
    refine bodyPost_ret (results_none rfl _ _ _) rfl ?_
    exact ⟨⟨_, rfl⟩, M1.out, by first | exact G1.out | (rw [if_neg (by simp)]; exact G1.out), B1.out, fun b hb hn => K1.out b (Or.inl hb) (fun e => nq (e ▸ hb))⟩
  · have b2 := G1.out.set 7 (.pointer none)
    have b3 := b2.set 8 (.int .i64 (ct + 1))
    have y7 : w1.cell? ⟨gp, 7, none⟩ = some (.pointer (some ⟨gq, 0, none⟩)) := G1.out.cell 7
    have z7 : w1.frozen? ⟨gp, 7, none⟩ = false := G1.out.frozen 7
    have y8 : (w1.setCell ⟨gp, 7, none⟩ (.pointer none)).cell? ⟨gp, 8, none⟩ = some (.int .i64 ct) := b2.cell 8
    have z8 : (w1.setCell ⟨gp, 7, none⟩ (.pointer none)).frozen? ⟨gp, 8, none⟩ = false := b2.frozen 8
    have f2 : Fr (fun b => b = gp) w1 ((w1.setCell ⟨gp, 7, none⟩ (.pointer none)).setCell ⟨gp, 8, none⟩ (.int .i64 (ct + 1))) := Fr.setCell (S := fun b => b = gp) (p := ⟨gp, 8, none⟩) (Fr.setCell (S := fun b => b = gp) (p := ⟨gp, 7, none⟩) (Fr.refl _ w1) (Or.inl rfl) _) (Or.inl rfl) _
    have y5 : ((w1.setCell ⟨gp, 7, none⟩ (.pointer none)).setCell ⟨gp, 8, none⟩ (.int .i64 (ct + 1))).cell? ⟨gp, 5, none⟩ = some (.int .i64 p) := b3.cell 5
    have HGo := Lib.hid (goOn_ok (F := F) (⟨false, 3, ep, p, sl, none, ct + 1⟩ : RcM) (p + 1) b3 (L1.out.fr f2 nlp) nlp)
    have F2 := Lib.hid f2
    clear b2 b3 f2
    go_wp2_with fail
    refine HGo.out.mono ?_
    rintro e w3 ⟨⟨u, rfl⟩, f3, b3⟩
    have f4 : Fr (fun b => b = gp) w1 w3 := F2.out.trans f3 (fun _ _ hb => hb)
    have F4 := Lib.hid f4
    have B3 := Lib.hid b3
    clear f3 f4 b3 y5 y7 y8 z7 z8
    go_wp2_with fail
    refine bodyPost_end (results_none rfl _ _ _) rfl ?_
    exact ⟨⟨_, rfl⟩, M1.out.turn F4.out (fun b e => by rw [e]; exact Or.inl qp) (fun b e => by rw [e]; exact p0), by first | exact B3.out | (rw [if_pos rfl]; exact B3.out), B1.out.fr F4.out hne.symm, fun b hb hn => (F4.out.block b (M1.out.lt.2 b (Or.inl hb)) hn).trans (K1.out b (Or.inl hb) (fun e => nq (e ▸ hb)))⟩
end
end Go.Proofs.YtbicloceaddinaaGreat


/- Package retire: the steps of Reclaim. Conditions: those that each theorem names. -/
namespace Go.Proofs.YtbicloceaddinaaGreat
open Go.ChangeShapes Go.WideShapes Go.ChangeAt Go.RowKit
set_option linter.unusedVariables false
section
variable {Q : Nat → Prop} {w0 w : World} {gm gp gl : Nat} {dv pv : Value} {s : MSt} {F : Nat → Int} {t sl ep ct : Int}
set_option maxRecDepth 100000 in
set_option maxHeartbeats 4000000 in
theorem rcStep_done (x : RcM) (hx : x.dn = true) (h : IsMem Q w w0 w gm dv pv s) (hb : Blk w gp 206 (x.cells gl t)) :
    Calls Tryz.prog 63 #[.pointer (some ⟨gp, 0, none⟩), .pointer (some ⟨gm, 0, none⟩)] w (StepPost Q w0 w gm gp 206 dv pv s true (x.cells gl t)) := by
  have H := Lib.hid h
  have HB := Lib.hid hb
  have c2 : w.cell? ⟨gp, 2, none⟩ = some (.bool true) := by rw [← hx]; exact hb.cell 2
  clear h hb
  go_enter Tryz.func63, Tryz.ntmps63
  go_wp2_with fail
  refine (doneReclaim_ok _ gp true c2).mono ?_
  rintro e w' ⟨rfl, rfl⟩
  go_wp2_with fail
  go_ret
  exact ⟨rfl, H.out, HB.out, fun _ _ _ => rfl⟩
set_option maxRecDepth 100000 in
set_option maxHeartbeats 4000000 in
theorem rcStep_1 (h : IsMem Q w w0 w gm dv pv s) (hc : Calm s) (ok : Okay F) (k m : Nat) (hk : k ≤ 500) (hm : m ≤ 500) (hm0 : 0 < m) (hL : F 2 = (k : Int) + (m : Int)) (hb : Blk w gp 206 (RcM.cells ⟨false, 1, ep, (k : Int), sl, none, ct⟩ gl t)) (hl : Blk w gl 173 (cellsF F)) (qp : Q gp) (ql : Q gl) (nlp : gl ≠ gp) (p0 : w0.heap.size ≤ gp) :
    Calls Tryz.prog 63 #[.pointer (some ⟨gp, 0, none⟩), .pointer (some ⟨gm, 0, none⟩)] w (StepPost Q w0 w gm gp 206 dv pv (s.load t (logN F t k)) (if overB ep (peekV s (logN F t k)) = true then (⟨false, 2, ep, (k : Int), toN (peekV s (logN F t k)), none, ct⟩ : RcM) else RcM.goOn F ⟨false, 1, ep, (k : Int), sl, none, ct⟩ ((k : Int) + 1)).dn ((if overB ep (peekV s (logN F t k)) = true then (⟨false, 2, ep, (k : Int), toN (peekV s (logN F t k)), none, ct⟩ : RcM) else RcM.goOn F ⟨false, 1, ep, (k : Int), sl, none, ct⟩ ((k : Int) + 1)).cells gl t)) := by
  have HC := clook_ok h hc ok k m hk hm hm0 hL hb hl qp ql nlp p0
  obtain ⟨X, hX⟩ : ∃ X : RcM, (if overB ep (peekV s (logN F t k)) = true then (⟨false, 2, ep, (k : Int), toN (peekV s (logN F t k)), none, ct⟩ : RcM) else RcM.goOn F ⟨false, 1, ep, (k : Int), sl, none, ct⟩ ((k : Int) + 1)) = X := ⟨_, rfl⟩
  rw [hX] at HC ⊢
  have HCh := Lib.hid HC
  have c2 : w.cell? ⟨gp, 2, none⟩ = some (.bool false) := hb.cell 2
  have c3 : w.cell? ⟨gp, 3, none⟩ = some (.int .i64 1) := hb.cell 3
  clear h hb hl HC hX hc ok hL
  go_enter Tryz.func63, Tryz.ntmps63
  go_wp2_with fail
  refine (doneReclaim_ok _ gp false c2).mono ?_
  rintro e w' ⟨rfl, rfl⟩
  go_wp2_with fail
  refine HCh.out.mono ?_
  rintro e w1 ⟨⟨u, rfl⟩, m1, b1, k1⟩
  have y2 : w1.cell? ⟨gp, 2, none⟩ = some (.bool X.dn) := b1.cell 2
  have M := Lib.hid m1
  have B := Lib.hid b1
  have K := Lib.hid k1
  clear m1 b1 k1 HCh c2 c3
  go_wp2_with fail
  go_ret
  exact ⟨rfl, M.out, B.out, K.out⟩
set_option maxRecDepth 100000 in
set_option maxHeartbeats 4000000 in
theorem rcStep_2 (h : IsMem Q w w0 w gm dv pv s) (hc : Calm s) (ok : Okay F) (p : Int) (hb : Blk w gp 206 (RcM.cells ⟨false, 2, ep, p, sl, none, ct⟩ gl t)) (hl : Blk w gl 173 (cellsF F)) (qp : Q gp) (ql : Q gl) (nlp : gl ≠ gp) (p0 : w0.heap.size ≤ gp) :
    Calls Tryz.prog 63 #[.pointer (some ⟨gp, 0, none⟩), .pointer (some ⟨gm, 0, none⟩)] w fun e w' => e = .returned (.bool false) ∧ ∃ g, (¬ Q g ∧ w0.heap.size ≤ g) ∧ IsMem (fun b => Q b ∨ b = g) w' w0 w' gm dv pv (s.store t (logN F t p) 0) ∧ Blk w' gp 206 (RcM.cells ⟨false, 3, ep, p, sl, some (g, ⟨0, 0, sl, false⟩), ct⟩ gl t) ∧ Blk w' g 259 (PMs.cells ⟨0, 0, sl, false⟩ gl t) ∧ (∀ b, Q b → b ≠ gp → w'.heap[b]? = w.heap[b]?) := by
  have HCh := Lib.hid (empty_ok h hc ok p hb hl qp ql nlp p0)
  have c2 : w.cell? ⟨gp, 2, none⟩ = some (.bool false) := hb.cell 2
  have c3 : w.cell? ⟨gp, 3, none⟩ = some (.int .i64 2) := hb.cell 3
  clear h hb hl hc ok
  go_enter Tryz.func63, Tryz.ntmps63
  go_wp2_with fail
  refine (doneReclaim_ok _ gp false c2).mono ?_
  rintro e w' ⟨rfl, rfl⟩
  go_wp2_with fail
  refine HCh.out.mono ?_
  rintro e w1 ⟨⟨u, rfl⟩, g, hg, m1, b1, bq, k1⟩
  have y2 : w1.cell? ⟨gp, 2, none⟩ = some (.bool false) := b1.cell 2
  have M := Lib.hid m1
  have B := Lib.hid b1
  have BQ := Lib.hid bq
  have K := Lib.hid k1
  clear m1 b1 bq k1 HCh c2 c3
  go_wp2_with fail
  go_ret
  exact ⟨rfl, g, hg, M.out, B.out, BQ.out, K.out⟩
set_option maxRecDepth 100000 in
set_option maxHeartbeats 4000000 in
theorem rcStep_3 {gq : Nat} {y : PMs} (h : IsMem (fun b => Q b ∨ b = gq) w w0 w gm dv pv s) (hc : Calm s) (ok : Okay F) (hF : F 22 = -2) (hy : y.Wf) (p : Int) (hp : 0 ≤ p ∧ p ≤ 1000) (hct : 0 ≤ ct ∧ ct ≤ 1000) (hb : Blk w gp 206 (RcM.cells ⟨false, 3, ep, p, sl, some (gq, y), ct⟩ gl t)) (hbq : Blk w gq 259 (y.cells gl t)) (hl : Blk w gl 173 (cellsF F)) (qp : Q gp) (ql : Q gl) (nlp : gl ≠ gp) (p0 : w0.heap.size ≤ gp) (nq : ¬ Q gq) (p0q : w0.heap.size ≤ gq) :
    Calls Tryz.prog 63 #[.pointer (some ⟨gp, 0, none⟩), .pointer (some ⟨gm, 0, none⟩)] w fun e w' => e = .returned (.bool (if (pushS F t y s).1.dn = true then RcM.goOn F ⟨false, 3, ep, p, sl, none, ct + 1⟩ (p + 1) else (⟨false, 3, ep, p, sl, some (gq, (pushS F t y s).1), ct⟩ : RcM)).dn) ∧ IsMem (fun b => Q b ∨ b = gq) w' w0 w' gm dv pv (pushS F t y s).2 ∧ Blk w' gp 206 ((if (pushS F t y s).1.dn = true then RcM.goOn F ⟨false, 3, ep, p, sl, none, ct + 1⟩ (p + 1) else (⟨false, 3, ep, p, sl, some (gq, (pushS F t y s).1), ct⟩ : RcM)).cells gl t) ∧ Blk w' gq 259 ((pushS F t y s).1.cells gl t) ∧ (∀ b, Q b → b ≠ gp → w'.heap[b]? = w.heap[b]?) := by
  have HC := give_ok h hc ok hF hy p hp hct hb hbq hl qp ql nlp nq p0 p0q
  obtain ⟨X, hX⟩ : ∃ X : RcM, (if (pushS F t y s).1.dn = true then RcM.goOn F ⟨false, 3, ep, p, sl, none, ct + 1⟩ (p + 1) else (⟨false, 3, ep, p, sl, some (gq, (pushS F t y s).1), ct⟩ : RcM)) = X := ⟨_, rfl⟩
  rw [hX] at HC ⊢
  have HCh := Lib.hid HC
  have c2 : w.cell? ⟨gp, 2, none⟩ = some (.bool false) := hb.cell 2
  have c3 : w.cell? ⟨gp, 3, none⟩ = some (.int .i64 3) := hb.cell 3
  clear h hb hbq hl HC hX hc ok
  go_enter Tryz.func63, Tryz.ntmps63
  go_wp2_with fail
  refine (doneReclaim_ok _ gp false c2).mono ?_
  rintro e w' ⟨rfl, rfl⟩
  go_wp2_with fail
  refine HCh.out.mono ?_
  rintro e w1 ⟨⟨u, rfl⟩, m1, b1, bq, k1⟩
  have y2 : w1.cell? ⟨gp, 2, none⟩ = some (.bool X.dn) := b1.cell 2
  have M := Lib.hid m1
  have B := Lib.hid b1
  have BQ := Lib.hid bq
  have K := Lib.hid k1
  clear m1 b1 bq k1 HCh c2 c3
  go_wp2_with fail
  go_ret
  exact ⟨rfl, M.out, B.out, BQ.out, K.out⟩
set_option maxRecDepth 100000 in
set_option maxHeartbeats 4000000 in
theorem rcStep_0 (h : IsMem Q w w0 w gm dv pv s) (hc : Calm s) (ok : Okay F) (hF : F 21 = -1) (place : Int) (hb : Blk w gp 206 (RcM.cells ⟨false, 0, ep, place, sl, none, ct⟩ gl t)) (hl : Blk w gl 173 (cellsF F)) (qp : Q gp) (ql : Q gl) (nlp : gl ≠ gp) (p0 : w0.heap.size ≤ gp) :
    Calls Tryz.prog 63 #[.pointer (some ⟨gp, 0, none⟩), .pointer (some ⟨gm, 0, none⟩)] w (StepPost Q w0 w gm gp 206 dv pv (s.load t (-1)) (RcM.goOn F ⟨false, 0, peekV s (-1), place, sl, none, ct⟩ 0).dn ((RcM.goOn F ⟨false, 0, peekV s (-1), place, sl, none, ct⟩ 0).cells gl t)) := by
  have HK : Hid (∀ W s', IsMem Q w w0 W gm dv pv s' → Blk W gp 206 (RcM.cells ⟨false, 0, ep, place, sl, none, ct⟩ gl t) ∧ Blk W gl 173 (cellsF F)) := Lib.hid (fun W s' m => ⟨(m.keptQ gp qp).trans hb, (m.keptQ gl ql).trans hl⟩)
  have HP : Hid (∀ W s', IsMem Q w w0 W gm dv pv s' → W.cell? ⟨gp, 0, none⟩ = some (.pointer (some ⟨gl, 0, none⟩)) ∧ W.cell? ⟨gp, 1, none⟩ = some (.int .i64 t)) := Lib.hid (fun W s' m => ⟨((HK.out W s' m).1).cell 0, ((HK.out W s' m).1).cell 1⟩)
  have HP2 : Hid (∀ W s' u, IsMem Q w w0 W gm dv pv s' → (W.setCell ⟨gp, 4, none⟩ u).cell? ⟨gp, 0, none⟩ = some (.pointer (some ⟨gl, 0, none⟩)) ∧ (W.setCell ⟨gp, 4, none⟩ u).cell? ⟨gp, 1, none⟩ = some (.int .i64 t)) := Lib.hid (fun W s' u m => ⟨(((HK.out W s' m).1).set 4 u).cell 0, (((HK.out W s' m).1).set 4 u).cell 1⟩)
  have HEp : Hid (∀ W s', IsMem Q w w0 W gm dv pv s' → Calls Tryz.prog 132 #[.pointer (some ⟨gl, 0, none⟩)] W fun e w' => e = .returned (.int .i64 (-1)) ∧ Ext W w') := Lib.hid (fun W s' m => tEpoch_m1 gl W (HK.out W s' m).2 hF)
  have HL : Hid (∀ W, IsMem Q w w0 W gm dv pv s → Calls Tryz.prog 69 #[.pointer (some ⟨gm, 0, none⟩), .int .i64 t, .int .i64 (-1)] W fun e w' => e = .returned (.int .u64 (peekV s (-1))) ∧ IsMem Q w w0 w' gm dv pv (s.load t (-1))) := Lib.hid (fun W m => memLoad_ok m t (-1) (by decide) (by decide) hc)
  have M := Lib.hid (h.ext ((Ext.refl w).drew))
  have HB := Lib.hid hb
  have HLy := Lib.hid hl
  generalize peekV s (-1) = v at *
  generalize s.load t (-1) = s1 at *
  have c2 : w.cell? ⟨gp, 2, none⟩ = some (.bool false) := hb.cell 2
  have c3 : w.cell? ⟨gp, 3, none⟩ = some (.int .i64 0) := hb.cell 3
  have c0 : w.cell? ⟨gp, 0, none⟩ = some (.pointer (some ⟨gl, 0, none⟩)) := hb.cell 0
  clear h hb hl hF hc ok
  go_enter Tryz.func63, Tryz.ntmps63
  go_wp2_with fail
  refine (doneReclaim_ok _ gp false c2).mono ?_
  rintro e w' ⟨rfl, rfl⟩
  go_wp2_with fail
  go_region_held3 (fun W => W.cell? ⟨gp, 0, none⟩ = some (.pointer (some ⟨gl, 0, none⟩)) ∧ W.cell? ⟨gp, 1, none⟩ = some (.int .i64 t)) (first | exact HP.out _ _ M.out | exact HP2.out _ _ _ M.out | go_keep) (first
    | (go_at_call 132; refine (HEp.out _ _ M.out).mono ?_; rintro e w1 ⟨rfl, x1⟩; replace M := Lib.hid (M.out.ext x1); clear x1)
    | (go_at_call 69; refine (HL.out _ M.out).mono ?_; rintro e w1 ⟨rfl, m1⟩; replace M := Lib.hid m1; have y4 : w1.cell? ⟨gp, 4, none⟩ = some (.int .u64 ep) := ((HK.out _ _ m1).1).cell 4; have z4 : w1.frozen? ⟨gp, 4, none⟩ = false := ((HK.out _ _ m1).1).frozen 4; clear m1))
  all_goals
    have b5 : Blk (w1.setCell ⟨gp, 4, none⟩ (.int .u64 v)) gp 206 (RcM.cells ⟨false, 0, v, place, sl, none, ct⟩ gl t) := ((HK.out _ _ M.out).1).set 4 _
    have f5 : Fr (fun b => b = gp) w1 (w1.setCell ⟨gp, 4, none⟩ (.int .u64 v)) := Fr.setCell (S := fun b => b = gp) (p := ⟨gp, 4, none⟩) (Fr.refl _ w1) (Or.inl rfl) _
    have l5 : Blk (w1.setCell ⟨gp, 4, none⟩ (.int .u64 v)) gl 173 (cellsF F) := ((HK.out _ _ M.out).2).fr f5 nlp
    have HG := Lib.hid (goOn_ok ⟨false, 0, v, place, sl, none, ct⟩ 0 b5 l5 nlp)
    have F5 := Lib.hid f5
    clear b5 f5 l5 y4 z4
    go_wp2_with fail
    refine HG.out.mono ?_
    rintro e w2 ⟨⟨u, rfl⟩, f2, b2⟩
    obtain ⟨X, hX⟩ : ∃ X : RcM, RcM.goOn F ⟨false, 0, v, place, sl, none, ct⟩ 0 = X := ⟨_, rfl⟩
    rw [hX] at b2
    have y2 : w2.cell? ⟨gp, 2, none⟩ = some (.bool X.dn) := b2.cell 2
    have f : Fr (fun b => b = gp) w1 w2 := F5.out.trans f2 (fun _ _ h => h)
    have FF := Lib.hid f
    have B2 := Lib.hid b2
    clear f f2 b2 HG F5
    go_wp2_with fail
    go_ret
    subst hX
    refine ⟨rfl, M.out.turn FF.out (fun b e => by rw [e]; exact qp) (fun b e => by rw [e]; exact p0), B2.out, fun b hb hne => ?_⟩
    exact (FF.out.block b (M.out.lt.2 b hb) hne).trans (M.out.keptQ b hb)
end
end Go.Proofs.YtbicloceaddinaaGreat


/- Package retire: a Reclaim's step, whatever its part. Conditions: those that each theorem names. -/
namespace Go.Proofs.YtbicloceaddinaaGreat
open Go.ChangeShapes Go.WideShapes Go.ChangeAt Go.RowKit
set_option linter.unusedVariables false
theorem IsMem.reQ {Q Q' : Nat → Prop} {w0 w : World} {gm : Nat} {dv pv : Value} {s : MSt} (h : IsMem Q w w0 w gm dv pv s) (hQ : ∀ b, Q' b → Q b) : IsMem Q' w w0 w gm dv pv s :=
  h.hold (Ext.refl w) (fun g hg => ⟨h.lt.2 g (hQ g hg), Or.inl (hQ g hg)⟩)
/-- A Reclaim, and the Push that it has under way. -/
structure RcAt (Q : Nat → Prop) (w0 w : World) (gm gp gl : Nat) (dv pv : Value) (t : Int) (x : RcM) (s : MSt) : Prop where
  mem : IsMem (fun b => Q b ∨ x.ownB b) w w0 w gm dv pv s
  blk : Blk w gp 206 (x.cells gl t)
  push : ∀ q, x.push = some q → (¬ Q q.1 ∧ w0.heap.size ≤ q.1) ∧ Blk w q.1 259 (q.2.cells gl t)
theorem RcM.ownB_none {x : RcM} (h : x.push = none) {b : Nat} (hb : x.ownB b) : False := by
  obtain ⟨q, e, _⟩ := hb
  rw [h] at e
  cases e
theorem RcAt.none {Q : Nat → Prop} {w0 w : World} {gm gp gl : Nat} {dv pv : Value} {t : Int} {x : RcM} {s : MSt} (h : x.push = none) (m : IsMem Q w w0 w gm dv pv s) (hb : Blk w gp 206 (x.cells gl t)) : RcAt Q w0 w gm gp gl dv pv t x s :=
  ⟨m.reQ (fun b hb => hb.elim id (fun h2 => (x.ownB_none h h2).elim)), hb, fun q e => by rw [h] at e; cases e⟩
theorem w64_0 : W64 0 := by unfold W64; decide
theorem i64_0 : I64 0 := by unfold I64; decide
structure RcM.Wf1 (L : Int) (x : RcM) : Prop where
  wf : x.Wf L
  p0 : x.dn = false → x.part = 0 → x.place = 0
theorem RcM.wf0 {L : Int} (h : 0 < L) : (⟨false, 0, 0, 0, 0, none, 0⟩ : RcM).Wf1 L :=
  ⟨⟨Or.inl (Or.inl rfl), w64_0, ⟨Int.le_refl 0, Int.le_of_lt h⟩, fun _ => h, i64_0, fun _ _ => rfl, fun _ (h3 : (0 : Int) = 3) => absurd h3 (by decide), fun _ => rfl, ⟨Int.le_refl 0, Int.le_refl 0⟩⟩, fun _ _ => rfl⟩
theorem pushS_y {F : Nat → Int} {t : Int} {y : PMs} {s : MSt} : (pushS F t y s).1.y = y.y := by
  unfold pushS
  repeat' split
  all_goals rfl
theorem RcM.Wf1.goOn {L : Int} {F : Nat → Int} (hL : F 2 = L) {dn : Bool} {part ep place sl ct p : Int} (h64 : W64 ep) (hs : I64 sl) (hp : 0 ≤ p ∧ p ≤ L) (hc : 0 ≤ ct ∧ ct ≤ p) : (RcM.goOn F ⟨dn, part, ep, place, sl, none, ct⟩ p).Wf1 L := by
  unfold RcM.goOn
  rw [hL]
  exact ⟨⟨Or.inl (Or.inr (Or.inl rfl)), h64, hp, fun h => Int.not_le.1 (by simpa using h), hs, fun _ _ => rfl, fun _ (h3 : (1 : Int) = 3) => absurd h3 (by decide), fun _ => rfl, hc⟩, fun _ (h0 : (1 : Int) = 0) => absurd h0 (by decide)⟩
theorem rcS_wf {L : Nat} {F : Nat → Int} {t n : Int} {x : RcM} {s : MSt} {g : Nat} (hL : F 2 = (L : Int)) (h0L : 0 < L) (hU : ∀ a, W64 (peekV s a)) (hx : x.Wf1 (L : Int)) (hc : CalmN n s) : (rcS F t x s g).1.Wf1 (L : Int) ∧ CalmN (n + 1) (rcS F t x s g).2 := by
  obtain ⟨dn, part, ep, place, sl, push, ct⟩ := x
  obtain ⟨⟨hpa, hep, hpl, hlt, hsl, hno, hpu, hnd, hct⟩, hp0⟩ := hx
  simp only at hpa hep hpl hlt hsl hno hpu hnd hct hp0
  cases dn
  · have hl0 := hlt rfl
    rcases hpa with (rfl | rfl | rfl | rfl) | hd
    · have e0 := hp0 rfl rfl
      have en := hno rfl (by decide)
      subst e0
      subst en
      exact ⟨RcM.Wf1.goOn hL (hU (-1)) hsl ⟨Int.le_refl 0, by omega⟩ hct, hc.load _ _⟩
    · have en := hno rfl (by decide)
      subst en
      have e : rcS F t ⟨false, 1, ep, place, sl, none, ct⟩ s g = (if overB ep (peekV s (logN F t place)) = true then ⟨false, 2, ep, place, toN (peekV s (logN F t place)), none, ct⟩ else RcM.goOn F ⟨false, 1, ep, place, sl, none, ct⟩ (place + 1), s.load t (logN F t place)) := rfl
      rw [e]
      refine ⟨?_, hc.load _ _⟩
      have hr := toN_rng (hU (logN F t place))
      have hi : I64 (toN (peekV s (logN F t place))) := ⟨by omega, by omega⟩
      show RcM.Wf1 (L : Int) (if overB ep (peekV s (logN F t place)) = true then (⟨false, 2, ep, place, toN (peekV s (logN F t place)), none, ct⟩ : RcM) else RcM.goOn F ⟨false, 1, ep, place, sl, none, ct⟩ (place + 1))
      split
      · exact ⟨⟨Or.inl (Or.inr (Or.inr (Or.inl rfl))), hep, hpl, hlt, hi, fun _ _ => rfl, fun _ (h3 : (2 : Int) = 3) => absurd h3 (by decide), fun _ => rfl, hct⟩, fun _ (h0 : (2 : Int) = 0) => absurd h0 (by decide)⟩
      · exact RcM.Wf1.goOn hL hep hsl ⟨by omega, by omega⟩ ⟨hct.1, by omega⟩
    · have en := hno rfl (by decide)
      subst en
      have e : rcS F t ⟨false, 2, ep, place, sl, none, ct⟩ s g = (⟨false, 3, ep, place, sl, some (g, ⟨0, 0, sl, false⟩), ct⟩, s.store t (logN F t place) 0) := rfl
      rw [e]
      exact ⟨⟨⟨Or.inl (Or.inr (Or.inr (Or.inr rfl))), hep, hpl, hlt, hsl, fun _ h3 => absurd rfl h3, fun _ _ => ⟨g, _, rfl, ⟨Or.inl rfl, w64_0, hsl⟩, rfl, rfl⟩, fun (h : false = true) => absurd h (by decide), hct⟩, fun _ (h0 : (3 : Int) = 0) => absurd h0 (by decide)⟩, hc.store _ _ _⟩
    · obtain ⟨gq, y, rfl, hy, hyd, hyy⟩ := hpu rfl rfl
      have hw := pushS_wf (F := F) (t := t) hU hy hc
      have e : rcS F t ⟨false, 3, ep, place, sl, some (gq, y), ct⟩ s g = (if (pushS F t y s).1.dn = true then RcM.goOn F ⟨false, 3, ep, place, sl, none, ct + 1⟩ (place + 1) else ⟨false, 3, ep, place, sl, some (gq, (pushS F t y s).1), ct⟩, (pushS F t y s).2) := rfl
      rw [e]
      refine ⟨?_, hw.2⟩
      show RcM.Wf1 (L : Int) (if (pushS F t y s).1.dn = true then RcM.goOn F ⟨false, 3, ep, place, sl, none, ct + 1⟩ (place + 1) else (⟨false, 3, ep, place, sl, some (gq, (pushS F t y s).1), ct⟩ : RcM))
      split
      · exact RcM.Wf1.goOn hL hep hsl ⟨by omega, by omega⟩ ⟨by omega, by omega⟩
      · rename_i hnd2
        exact ⟨⟨Or.inl (Or.inr (Or.inr (Or.inr rfl))), hep, hpl, hlt, hsl, fun _ h3 => absurd rfl h3, fun _ _ => ⟨gq, _, rfl, hw.1, by simpa using hnd2, pushS_y.trans hyy⟩, fun (h : false = true) => absurd h (by decide), hct⟩, fun _ (h0 : (3 : Int) = 0) => absurd h0 (by decide)⟩
    · cases hd
  · have e : rcS F t ⟨true, part, ep, place, sl, push, ct⟩ s g = (⟨true, part, ep, place, sl, push, ct⟩, s) := rfl
    rw [e]
    exact ⟨⟨⟨hpa, hep, hpl, hlt, hsl, hno, hpu, hnd, hct⟩, hp0⟩, hc.mono (by omega)⟩
section
variable {Q : Nat → Prop} {w0 w : World} {gm gp gl : Nat} {dv pv : Value} {s : MSt} {F : Nat → Int} {t : Int} {x : RcM}
/-- **A STEP OF A RECLAIM.** -/
theorem rcStep_ok {L : Nat} (h : RcAt Q w0 w gm gp gl dv pv t x s) (hc : Calm s) (ok : Okay F) (h21 : F 21 = -1) (h22 : F 22 = -2) (hx : x.Wf1 (L : Int)) (hL : F 2 = (L : Int)) (hL5 : L ≤ 500) (hl : Blk w gl 173 (cellsF F)) (qp : Q gp) (ql : Q gl) (nlp : gl ≠ gp) (p0 : w0.heap.size ≤ gp) :
    Calls Tryz.prog 63 #[.pointer (some ⟨gp, 0, none⟩), .pointer (some ⟨gm, 0, none⟩)] w fun e w' => ∃ g, e = .returned (.bool (rcS F t x s g).1.dn) ∧ RcAt Q w0 w' gm gp gl dv pv t (rcS F t x s g).1 (rcS F t x s g).2 ∧ (∀ b, Q b → b ≠ gp → w'.heap[b]? = w.heap[b]?) := by
  obtain ⟨dn, part, ep, place, sl, push, ct⟩ := x
  obtain ⟨⟨hpa, hep, hpl, hlt, hsl, hno, hpu, hnd, hct⟩, hp0⟩ := hx
  obtain ⟨hm, hb, hq⟩ := h
  simp only at hpa hep hpl hlt hsl hno hpu hnd hct hp0
  have hmQ : IsMem Q w w0 w gm dv pv s := hm.reQ (fun b h => Or.inl h)
  cases dn
  · have hl0 := hlt rfl
    rcases hpa with (rfl | rfl | rfl | rfl) | hd
    · have en := hno rfl (by decide)
      subst en
      refine (rcStep_0 hmQ hc ok h21 place hb hl qp ql nlp p0).mono ?_
      rintro e w1 ⟨rfl, m1, b1, k1⟩
      exact ⟨0, rfl, RcAt.none rfl m1 b1, k1⟩
    · have en := hno rfl (by decide)
      subst en
      obtain ⟨k, rfl⟩ := Int.eq_ofNat_of_zero_le hpl.1
      refine (rcStep_1 hmQ hc ok k (L - k) (by omega) (by omega) (by omega) (by omega) hb hl qp ql nlp p0).mono ?_
      rintro e w1 ⟨rfl, m1, b1, k1⟩
      refine ⟨0, rfl, RcAt.none ?_ m1 b1, k1⟩
      show (if overB ep (peekV s (logN F t (k : Int))) = true then (⟨false, 2, ep, (k : Int), toN (peekV s (logN F t (k : Int))), none, ct⟩ : RcM) else RcM.goOn F ⟨false, 1, ep, (k : Int), sl, none, ct⟩ ((k : Int) + 1)).push = none
      split <;> rfl
    · have en := hno rfl (by decide)
      subst en
      refine (rcStep_2 hmQ hc ok place hb hl qp ql nlp p0).mono ?_
      rintro e w1 ⟨rfl, g, hg, m1, b1, bq, k1⟩
      refine ⟨g, rfl, ⟨m1.reQ (fun b hb => ?_), b1, fun q e => ?_⟩, k1⟩
      · rcases hb with hb | ⟨q, e, e2⟩
        · exact Or.inl hb
        · injection e with e
          exact Or.inr (by rw [e2, ← e])
      · injection e with e
        rw [← e]
        exact ⟨hg, bq⟩
    · obtain ⟨gq, y, rfl, hy, hyd, hyy⟩ := hpu rfl rfl
      obtain ⟨⟨nq, p0q⟩, hbq⟩ := hq (gq, y) rfl
      have hm2 : IsMem (fun b => Q b ∨ b = gq) w w0 w gm dv pv s := hm.reQ (fun b hb => hb.imp id (fun e => ⟨(gq, y), rfl, e⟩))
      refine (rcStep_3 hm2 hc ok h22 hy place ⟨by omega, by omega⟩ ⟨by omega, by omega⟩ hb hbq hl qp ql nlp p0 nq p0q).mono ?_
      rintro e w1 ⟨rfl, m1, b1, bq, k1⟩
      refine ⟨0, rfl, ⟨m1.reQ (fun b hb => ?_), b1, fun q e => ?_⟩, k1⟩
      · rcases hb with hb | ⟨q, e, e2⟩
        · exact Or.inl hb
        right
        change (if (pushS F t y s).1.dn = true then RcM.goOn F ⟨false, 3, ep, place, sl, none, ct + 1⟩ (place + 1) else (⟨false, 3, ep, place, sl, some (gq, (pushS F t y s).1), ct⟩ : RcM)).push = some q at e
        split at e
        · cases e
        · injection e with e
          rw [e2, ← e]
      · change (if (pushS F t y s).1.dn = true then RcM.goOn F ⟨false, 3, ep, place, sl, none, ct + 1⟩ (place + 1) else (⟨false, 3, ep, place, sl, some (gq, (pushS F t y s).1), ct⟩ : RcM)).push = some q at e
        split at e
        · cases e
        · injection e with e
          rw [← e]
          exact ⟨⟨nq, p0q⟩, bq⟩
    · cases hd
  · have en := hnd rfl
    subst en
    refine (rcStep_done _ rfl hmQ hb).mono ?_
    rintro e w1 ⟨rfl, m1, b1, k1⟩
    exact ⟨0, rfl, RcAt.none rfl m1 b1, k1⟩
end
end Go.Proofs.YtbicloceaddinaaGreat

