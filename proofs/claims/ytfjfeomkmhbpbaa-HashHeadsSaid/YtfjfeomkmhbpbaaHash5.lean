/- Package hash: Heads; the n-th head of a kind. Conditions: those that each theorem names. -/
import Derived.Test.YtfjfeomkmhbpbaaHash4
namespace Go.Proofs.Ytfjfeomkmhbpbaa
open Go.ChangeShapes Go.WideShapes Go.ChangeAt Go.RowKit Go.Shelf
set_option linter.unusedVariables false
attribute [local go_sem] Oper.semAt_some
/-- How many heads are of a kind. -/
def cntB {m : Nat} (bk : Bool) (pre : List (Fin (m + 1))) : Nat := pre.countP (fun x => headB x.val == bk)
theorem cntB_nil {m : Nat} (bk : Bool) : cntB bk ([] : List (Fin (m + 1))) = 0 := rfl
theorem cntB_snoc {m : Nat} (bk : Bool) (pre : List (Fin (m + 1))) (x : Fin (m + 1)) : cntB bk (pre ++ [x]) = cntB bk pre + (if headB x.val = bk then 1 else 0) := by
  unfold cntB
  rw [List.countP_append, List.countP_singleton]
  by_cases h : headB x.val = bk <;> simp [h]
theorem cntB_take {m : Nat} (j : Nat) (hj : j ≤ m + 1) : cntB true ((List.finRange (m + 1)).take j) = j - 1 ∧ cntB false ((List.finRange (m + 1)).take j) = if j = 0 then 0 else 1 := by
  induction j with
  | zero => simp [cntB]
  | succ j ih =>
    obtain ⟨i1, i2⟩ := ih (by omega)
    rw [finRange_take_moreH (m + 1) j (by omega), cntB_snoc, cntB_snoc, i1, i2]
    by_cases h0 : j = 0
    · subst h0
      simp [headB]
    · simp [headB, h0]
      omega
theorem cntB_all {m : Nat} : cntB true (List.finRange (m + 1)) = m ∧ cntB false (List.finRange (m + 1)) = 1 := by
  obtain ⟨h1, h2⟩ := cntB_take (m := m) (m + 1) (Nat.le_refl _)
  rw [List.take_of_length_le (by simp)] at h1 h2
  exact ⟨by omega, by rw [h2]; simp⟩
/-- The last of the first j is the j-th. -/
theorem take_last {m j : Nat} {p : List (Fin (m + 1))} {x : Fin (m + 1)} (h : p ++ [x] = (List.finRange (m + 1)).take j) : x.val = p.length ∧ p = (List.finRange (m + 1)).take p.length := by
  have hl := congrArg List.length h
  rw [List.length_append, List.length_take, List.length_finRange] at hl
  simp only [List.length_cons, List.length_nil] at hl
  have hx : (p ++ [x])[p.length]? = ((List.finRange (m + 1)).take j)[p.length]? := by rw [h]
  rw [List.getElem?_append_right (Nat.le_refl _), Nat.sub_self, List.getElem?_cons_zero, List.getElem?_take, if_pos (by omega), List.getElem?_eq_getElem (by simp; omega)] at hx
  simp only [Option.some.injEq] at hx
  refine ⟨by rw [hx]; simp, ?_⟩
  have h2 : (p ++ [x]).take p.length = ((List.finRange (m + 1)).take j).take p.length := by rw [h]
  rw [List.take_left' rfl, List.take_take, Nat.min_eq_left (by omega)] at h2
  exact h2
theorem results_cell1 {fn : Func} {p : Tmp} {ty : TypeId} (h : fn.results = #[.cell p ty]) (tmps : Array Value) (P : Program) (w : World) :
    (results fn tmps).run P w = ((asAddr (tmps.getD p undef)).run P w).andThen fun a w₁ => (loadVar ty a).run P w₁ := by
  simp only [results, h]
  simp [Sem.run_bind, Result.andThen]
theorem i64wH (x : Int) (h0 : -9223372036854775808 ≤ x) (h1 : x < 9223372036854775808) : IntKind.i64.wrap x = x := by
  unfold IntKind.wrap
  simp [IntKind.signed, IntKind.bits]
  omega
/-- The boxes of nth, all else as it was. -/
structure NthI (w1 : World) (b1 b2 b3 : Nat) (bk : Bool) (v r : Int) (W : World) : Prop where
  c1 : Blk W b1 4 [.bool bk]
  c2 : Blk W b2 3 [.int .i64 v]
  c3 : Blk W b3 3 [.int .i64 r]
  rest : ∀ g, g < w1.heap.size → g ≠ b2 → g ≠ b3 → W.heap[g]? = w1.heap[g]?
theorem NthI.grown {w1 A B : World} {b1 b2 b3 : Nat} {bk : Bool} {v r : Int} {row : Option Nat} (h : NthI w1 b1 b2 b3 bk v r A) (h1 : b1 < w1.heap.size) (h2 : b2 < w1.heap.size) (h3 : b3 < w1.heap.size) (hg : A.grownBy B row) (hr : ∀ q, row = some q → w1.heap.size ≤ q) : NthI w1 b1 b2 b3 bk v r B := by
  have hne : ∀ b, b < w1.heap.size → some b ≠ row := fun b hb e => by
    have := hr b e.symm
    omega
  exact ⟨(hg.block b1 h.c1.lt (hne b1 h1)).trans h.c1, (hg.block b2 h.c2.lt (hne b2 h2)).trans h.c2, (hg.block b3 h.c3.lt (hne b3 h3)).trans h.c3, fun g hg1 n2 n3 => (hg.block g (by
    have := h.rest g hg1 n2 n3
    rw [Array.getElem?_eq_getElem hg1] at this
    exact (Array.getElem?_eq_some_iff.1 this).1) (hne g hg1)).trans (h.rest g hg1 n2 n3)⟩
theorem NthI.set2 {w1 W : World} {b1 b2 b3 : Nat} {bk : Bool} {v r : Int} (h : NthI w1 b1 b2 b3 bk v r W) (n1 : b1 ≠ b2) (n3 : b3 ≠ b2) (u : Int) : NthI w1 b1 b2 b3 bk u r (W.setCell ⟨b2, 0, none⟩ (.int .i64 u)) :=
  ⟨h.c1.far (p := ⟨b2, 0, none⟩) n1 _, h.c2.set 0 _, h.c3.far (p := ⟨b2, 0, none⟩) n3 _, fun g hg g2 g3 => (Below.heap_setCell W ⟨b2, 0, none⟩ _ g g2).trans (h.rest g hg g2 g3)⟩
theorem NthI.set3 {w1 W : World} {b1 b2 b3 : Nat} {bk : Bool} {v r : Int} (h : NthI w1 b1 b2 b3 bk v r W) (n1 : b1 ≠ b3) (n2 : b2 ≠ b3) (u : Int) : NthI w1 b1 b2 b3 bk v u (W.setCell ⟨b3, 0, none⟩ (.int .i64 u)) :=
  ⟨h.c1.far (p := ⟨b3, 0, none⟩) n1 _, h.c2.far (p := ⟨b3, 0, none⟩) n2 _, h.c3.set 0 _, fun g hg g2 g3 => (Below.heap_setCell W ⟨b3, 0, none⟩ _ g g3).trans (h.rest g hg g2 g3)⟩
set_option maxHeartbeats 1000000 in
theorem heads_in (n : Nat) (gl : Nat) (w : World) :
    CallsIn Fence.wide n Try.prog 15 #[.pointer (some ⟨gl, 0, none⟩)] w fun e w' => e = .returned (.func (.func 36) #[] #[.pointer (some ⟨w.heap.size, 0, none⟩)]) ∧ w' = w.alloc (.cells #[.pointer (some ⟨gl, 0, none⟩)] 33) := by
  refine callsIn_of_wp Try.func15 rfl trivial ?_ rfl
  simp only [Try.ntmps15, List.size_toArray, List.length_cons, List.length_nil, Nat.reduceAdd, Nat.reduceSub, Array.replicate_succ, Array.replicate_zero, List.push_toArray, List.append_toArray, List.nil_append, List.cons_append]
  gi_wp2
  go_ret
  exact ⟨rfl, rfl⟩
theorem heads_stops (n : Nat) (hn : 1 ≤ n) (B0 gl m : Nat) (hm : m ≤ 1000000) (w : World) (F : Nat → Int) (ok : Okay F) (hL : F 3 = (m : Int)) (S : Nat → Prop) (s0 : S B0) (sl : S gl) (hS : ∀ g, S g → g < w.heap.size)
    (hB0 : Blk w B0 33 [.pointer (some ⟨gl, 0, none⟩)]) (hl : Blk w gl 71 (cellsF F)) :
    SeqStopsK Fence.wide n Try.prog 36 #[.pointer (some ⟨B0, 0, none⟩)] (fun x : Fin (m + 1) => #[.int .i64 (headN F x.val), .bool (headB x.val)]) (KeepH S) (fun ys => ys = List.finRange (m + 1)) (fun pre => ∃ j, pre = (List.finRange (m + 1)).take j) (m + 1) w := fun l J Jx W hW hJ _ hY h0 =>
  have x : Ext w W := hW
  heads1_in n hn l B0 gl m hm W F ok hL S s0 sl (fun g hg => Nat.lt_of_lt_of_le (hS g hg) x.size) J Jx (fun s A C h e => hJ s A C none h e.grownH (fun r hr => nomatch hr)) hY (hB0.ext x) (hl.ext x) h0
set_option maxRecDepth 100000 in
set_option maxHeartbeats 8000000 in
theorem nth_ok (gl m : Nat) (hm : m ≤ 1000000) (w : World) (F : Nat → Int) (ok : Okay F) (hL : F 3 = (m : Int)) (bk : Bool) (n0 : Nat) (h0 : if bk = true then n0 < m else n0 = 0) (hl : Blk w gl 71 (cellsF F)) :
    Calls Try.prog 41 #[.pointer (some ⟨gl, 0, none⟩), .bool bk, .int .i64 (n0 : Int)] w fun e w' => e = .returned (.int .i64 (if bk = true then bktN F (n0 : Int) else F 8)) ∧ Ext w w' := by
  have b1 := ((Blk.new w 4 [.bool bk]).ext ((Ext.refl _).alloc (.cells #[.int .i64 (n0 : Int)] 3))).ext ((Ext.refl _).alloc (.cells #[.int .i64 0] 3))
  have b2 := (Blk.new (w.alloc (.cells #[.bool bk] 4)) 3 [.int .i64 (n0 : Int)]).ext ((Ext.refl _).alloc (.cells #[.int .i64 0] 3))
  have b3 := Blk.new ((w.alloc (.cells #[.bool bk] 4)).alloc (.cells #[.int .i64 (n0 : Int)] 3)) 3 [.int .i64 0]
  have x3 : Ext w (((w.alloc (.cells #[.bool bk] 4)).alloc (.cells #[.int .i64 (n0 : Int)] 3)).alloc (.cells #[.int .i64 0] 3)) := (((Ext.refl w).alloc _).alloc _).alloc _
  simp only [World.size_alloc] at b2 b3
  have hgl := hl.lt
  have H1 := Lib.hid b1
  have H2 := Lib.hid b2
  have H3 := Lib.hid b3
  have X3 := Lib.hid x3
  have HLl := Lib.hid hl
  have HOk := Lib.hid ok
  have HL3 := Lib.hid hL
  have HN0 := Lib.hid h0
  have hn0 : n0 ≤ 1000000 := by split at h0 <;> omega
  obtain ⟨res, hres⟩ : ∃ res, (if bk = true then bktN F (n0 : Int) else F 8) = res := ⟨_, rfl⟩
  rw [hres]
  have HRr := Lib.hid hres
  clear b1 b2 b3 x3 hl ok hL h0 hres
  refine (callsIn_wide (n := 6)).1 ?_
  refine callsIn_of_wp_marks Try.func41 rfl trivial ?_ rfl
  simp only [Try.ntmps41, List.size_toArray, List.length_cons, List.length_nil, Nat.reduceAdd, Nat.reduceSub, Array.replicate_succ, Array.replicate_zero, List.push_toArray, List.append_toArray, List.nil_append, List.cons_append]
  gi_wp2_with (refine ⟨trivial, ?_⟩; gi_at_call 15; refine (heads_in _ gl _).mono ?_; rintro e w1 ⟨rfl, hw1⟩)
  clear hw1
  have hs3 : (((w.alloc (.cells #[.bool bk] 4)).alloc (.cells #[.int .i64 (n0 : Int)] 3)).alloc (.cells #[.int .i64 0] 3)).heap.size = w.heap.size + 1 + 1 + 1 := by simp
  generalize ((w.alloc (.cells #[.bool bk] 4)).alloc (.cells #[.int .i64 (n0 : Int)] 3)).alloc (.cells #[.int .i64 0] 3) = W3 at *
  have bB := Blk.new W3 33 [.pointer (some ⟨gl, 0, none⟩)]
  have xB : Ext W3 (W3.alloc (.cells #[.pointer (some ⟨gl, 0, none⟩)] 33)) := (Ext.refl W3).alloc _
  have hs4 : (W3.alloc (.cells #[.pointer (some ⟨gl, 0, none⟩)] 33)).heap.size = w.heap.size + 1 + 1 + 1 + 1 := by simp [hs3]
  rw [hs3] at bB
  generalize W3.alloc (.cells #[.pointer (some ⟨gl, 0, none⟩)] 33) = w1 at *
  obtain ⟨a1, ha1⟩ : ∃ a1, a1 = w.heap.size := ⟨_, rfl⟩
  have hx1 := X3.out.trans xB
  have L1 := Lib.hid (HLl.out.ext hx1)
  have be1 : Below w.heap.size w w1 := hx1.below
  have i1 : NthI w1 w.heap.size (w.heap.size + 1) (w.heap.size + 1 + 1) bk (n0 : Int) 0 w1 := ⟨H1.out.ext xB, H2.out.ext xB, H3.out.ext xB, fun _ _ _ _ => rfl⟩
  have ownBe : OwnFrom w1.heap.size (fun (_ : List (Fin (m + 1))) W => Below w.heap.size w W) := ownFrom_below (Nat.le_refl _) (by omega)
  have hSlt : ∀ g, (g = w.heap.size + 1 + 1 + 1 ∨ g = gl) → g < w1.heap.size := fun g hg => by rcases hg with rfl | rfl <;> omega
  clear H1 H2 H3 X3 xB hx1 hs3
  refine wpIn_rangeFunc_ownG rfl (by decide) (gf := 36) (lb := #[.pointer (some ⟨w.heap.size + 1 + 1 + 1, 0, none⟩)]) rfl trivial (enters_of Try.func36 (by kernel_rfl) rfl)
    (heads_stops (6 - 1) (by decide) (w.heap.size + 1 + 1 + 1) gl m hm w1 F HOk.out HL3.out (fun g => g = w.heap.size + 1 + 1 + 1 ∨ g = gl) (Or.inl rfl) (Or.inr rfl) hSlt bB L1.out)
    (fun h k => KeepH.trans h k) (fun W l _ o' hl _ _ _ => KeepH.putObj (B := w1.heap.size) hSlt W l o' hl) (Below.refl _ _) (fun _ => rfl)
    (fun (pre : List (Fin (m + 1))) W => (cntB bk pre ≤ n0 ∧ NthI w1 w.heap.size (w.heap.size + 1) (w.heap.size + 1 + 1) bk ((n0 : Int) - (cntB bk pre : Int)) 0 W) ∧ Below w.heap.size w W)
    (fun c (pre : List (Fin (m + 1))) W => (c = .ret ∧ ∃ p x, pre = p ++ [x] ∧ headB x.val = bk ∧ cntB bk p = n0 ∧ NthI w1 w.heap.size (w.heap.size + 1) (w.heap.size + 1 + 1) bk 0 (headN F x.val) W) ∧ Below w.heap.size w W)
    (OwnFrom.and (fun pre A B row h hg hr => ⟨h.1, h.2.grown (by omega) (by omega) (by omega) hg (fun q e => (hr q e).1)⟩) ownBe)
    (fun c => OwnFrom.and (fun pre A B row h hg hr => by
      obtain ⟨h1, p, x, h2, h3, h4, h5⟩ := h
      exact ⟨h1, p, x, h2, h3, h4, h5.grown (by omega) (by omega) (by omega) hg (fun q e => (hr q e).1)⟩) ownBe)
    ⟨⟨Nat.zero_le _, by rw [cntB_nil]; simpa using i1⟩, be1⟩
    (fun x => { tmps := #[.pointer (some ⟨gl, 0, none⟩), .bool bk, .int .i64 (n0 : Int), undef, .pointer (some ⟨w.heap.size, 0, none⟩), .pointer (some ⟨w.heap.size + 1, 0, none⟩), .pointer (some ⟨w.heap.size + 1 + 1, 0, none⟩), .int .i64 (headN F x.val), .bool (headB x.val), .pointer (some ⟨gl, 0, none⟩), .func (.func 36) #[] #[.pointer (some ⟨w.heap.size + 1 + 1 + 1, 0, none⟩)], .int .i64 (headN F x.val), .bool (headB x.val), undef, undef, undef, undef, undef, undef, undef, undef, undef, undef], defers := [] }) ?assign ?body ?done ?stop
  case assign =>
    intro l x W K hK
    gi_wp2
    exact hK
  case body =>
    rintro l pre x W ⟨⟨hc, hi⟩, hbe⟩ hlt
    have hsn := cntB_snoc bk pre x
    have c1 : W.cell? ⟨w.heap.size, 0, none⟩ = some (.bool bk) := hi.c1.cell 0
    have c2 : W.cell? ⟨w.heap.size + 1, 0, none⟩ = some (.int .i64 ((n0 : Int) - (cntB bk pre : Int))) := hi.c2.cell 0
    have c3 : W.cell? ⟨w.heap.size + 1 + 1, 0, none⟩ = some (.int .i64 0) := hi.c3.cell 0
    have z2 : W.frozen? ⟨w.heap.size + 1, 0, none⟩ = false := hi.c2.frozen 0
    have z3 : W.frozen? ⟨w.heap.size + 1 + 1, 0, none⟩ = false := hi.c3.frozen 0
    have HI := Lib.hid hi
    have HBe := Lib.hid hbe
    have HSn := Lib.hid hsn
    clear hi hbe hsn i1 be1
    by_cases hb : headB x.val = bk
    · have HB := Lib.hid hb
      by_cases hz : cntB bk pre = n0
      · have e0 : (n0 : Int) - (cntB bk pre : Int) = 0 := by omega
        rw [e0] at c2 HI
        obtain ⟨hv, ehv⟩ : ∃ hv, headN F x.val = hv := ⟨_, rfl⟩
        obtain ⟨hbv, ehb⟩ : ∃ hbv, headB x.val = hbv := ⟨_, rfl⟩
        rw [ehv, ehb]
        rw [ehb] at hb
        subst hb
        have EHv := Lib.hid ehv
        have EHb := Lib.hid ehb
        clear ehv ehb
        have d : (hbv != hbv) = false := by cases hbv <;> rfl
        have d' : (hbv == hbv) = true := by cases hbv <;> rfl
        gi_wp2
        refine ⟨(KeepsOthers.setCell W _ _).from _, ⟨rfl, pre, x, rfl, EHb.out, hz, by rw [EHv.out]; exact HI.out.set3 (by omega) (by omega) _⟩, HBe.out.setCell (p := ⟨w.heap.size + 1 + 1, 0, none⟩) (by show w.heap.size ≤ w.heap.size + 1 + 1; omega) _⟩
      · have hlt2 : cntB bk pre < n0 := by omega
        have hs2 := HSn.out
        rw [if_pos hb] at hs2
        have ev : ((n0 : Int) - (cntB bk (pre ++ [x]) : Int)) = ((n0 : Int) - (cntB bk pre : Int)) - 1 := by rw [hs2]; omega
        have HEv := Lib.hid ev
        have hcn : cntB bk (pre ++ [x]) ≤ n0 := by omega
        have v0 : 0 < (n0 : Int) - (cntB bk pre : Int) ∧ (n0 : Int) - (cntB bk pre : Int) ≤ 1000000 := by omega
        clear ev hs2
        generalize (n0 : Int) - (cntB bk pre : Int) = v at *
        have d0 : (v == 0) = false := by rw [beq_eq_false_iff_ne]; omega
        have d1 : decide (v = 0) = false := by simp; omega
        have wv : IntKind.i64.wrap (v - 1) = v - 1 := i64wH _ (by omega) (by omega)
        obtain ⟨hv, ehv⟩ : ∃ hv, headN F x.val = hv := ⟨_, rfl⟩
        obtain ⟨hbv, ehb⟩ : ∃ hbv, headB x.val = hbv := ⟨_, rfl⟩
        rw [ehv, ehb]
        rw [ehb] at hb
        subst hb
        have EHv := Lib.hid ehv
        have EHb := Lib.hid ehb
        clear ehv ehb
        have d : (hbv != hbv) = false := by cases hbv <;> rfl
        have d' : (hbv == hbv) = true := by cases hbv <;> rfl
        gi_wp2
        refine ⟨(KeepsOthers.setCell W _ _).from _, fun g hg => Below.heap_setCell W ⟨w.heap.size + 1, 0, none⟩ _ g (by show g ≠ w.heap.size + 1; rcases hg with rfl | rfl <;> omega), ⟨hcn, by rw [HEv.out]; exact HI.out.set2 (by omega) (by omega) _⟩, HBe.out.setCell (p := ⟨w.heap.size + 1, 0, none⟩) (by show w.heap.size ≤ w.heap.size + 1; omega) _⟩
    · have hs2 : cntB bk (pre ++ [x]) = cntB bk pre := by
        have := HSn.out
        rw [if_neg hb] at this
        omega
      have HS2 := Lib.hid hs2
      clear hs2
      have ev : ((n0 : Int) - (cntB bk (pre ++ [x]) : Int)) = ((n0 : Int) - (cntB bk pre : Int)) := by rw [HS2.out]
      have HEv := Lib.hid ev
      have hcn : cntB bk (pre ++ [x]) ≤ n0 := by rw [HS2.out]; exact hc
      clear ev
      generalize (n0 : Int) - (cntB bk pre : Int) = v at *
      obtain ⟨hbv, ehb⟩ : ∃ hbv, headB x.val = hbv := ⟨_, rfl⟩
      rw [ehb]
      rw [ehb] at hb
      clear ehb
      generalize headN F x.val = hv at *
      have d : (hbv != bk) = true := by rw [bne_iff_ne]; exact hb
      have d' : (hbv == bk) = false := by rw [beq_eq_false_iff_ne]; exact hb
      gi_wp2
      exact ⟨KeepsFrom.refl _ _, fun g _ => rfl, ⟨hcn, by rw [HEv.out]; exact HI.out⟩, HBe.out⟩
  case done =>
    rintro D xs W hD rfl ⟨⟨hc, hi⟩, hbe⟩ hKd
    have hca := cntB_all (m := m)
    have hn := HN0.out
    exfalso
    cases bk
    · rw [hca.2] at hc
      simp at hn
      omega
    · rw [hca.1] at hc
      simp at hn
      omega
  case stop =>
    rintro D c pre W hD ⟨j, hj⟩ ⟨⟨rfl, p, x, rfl, hxb, hcp, hi⟩, hbe⟩ hKd
    obtain ⟨hx1, hp⟩ := take_last hj
    have hxm := x.isLt
    have hct := cntB_take (m := m) p.length (by omega)
    rw [← hp] at hct
    have hres : headN F x.val = res := by
      rw [← HRr.out]
      unfold headN
      cases bk
      · have h0 : x.val = 0 := by simpa [headB] using hxb
        rw [if_pos h0]
        rfl
      · have h0 : x.val ≠ 0 := by simpa [headB] using hxb
        rw [if_neg h0]
        show _ = bktN F (n0 : Int)
        congr 1
        have := hct.1
        omega
    have C3 : Hid (Blk (W.putObj D (.deferred none)) (w.heap.size + 1 + 1) 3 [.int .i64 (headN F x.val)]) := Lib.hid ((World.putObj_heap_other (by omega)).trans hi.c3)
    have hBW := Lib.hid (hbe.trans (belowK_b (w := w) (Nat.le_refl _) W D _ (.deferred none) (by omega) hKd rfl rfl))
    rw [hres] at C3
    have HKd := Lib.hid hKd
    clear hKd hi hres hct hp hj hcp hbe
    gi_wp2
    refine ⟨by simp, .inl ⟨_, _, rfl, run_takeDeferred HKd.out, ?_⟩⟩
    refine ⟨_, ?_, rfl, Ext.of hBW.out⟩
    rw [results_cell1 rfl]
    have c3 := C3.out.cell 0
    go_simp
end Go.Proofs.Ytfjfeomkmhbpbaa
