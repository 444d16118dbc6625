/- Package retire: the slots of a log. Conditions: those that each theorem names. -/
import Derived.Test.YtbicloceaddinaaGreatKRetA
import Derived.Test.YtbicloceaddinaaGreatKLine
import Derived.Test.YtbicloceaddinaaGreatKRetB
namespace Go.Proofs.YtbicloceaddinaaGreat
open Go.ChangeShapes Go.WideShapes Go.ChangeAt Go.RowKit Go.Shelf
set_option linter.unusedVariables false
attribute [local go_sem] Oper.semAt_some
/-- A step of gathering into a row whose blocks lie behind all others that are told of. -/
theorem collect2 {W X w1 : World} {n₀ n₁ B : Nat} {t e : TypeId} {size : Nat} {v v' : Value} {k m : Nat} {xs ys : List Value}
    (hv : Boxed W B t v) (hrow : W.ownsRow n₁ e size v k xs) (hn : n₀ ≤ n₁) (hn₁ : n₁ ≤ W.heap.size) (hB : n₀ ≤ B) (hB1 : B < n₁) (hx : Ext W X)
    (hown' : w1.ownsRow n₁ e size v' m ys) (hgrow : X.grownBy w1 v.ownBlock) :
    Boxed w1 B t v ∧ Boxed (w1.setCell ⟨B, 0, none⟩ v') B t v' ∧ (w1.setCell ⟨B, 0, none⟩ v').ownsRow n₁ e size v' m ys ∧ KeepsOthers W (w1.setCell ⟨B, 0, none⟩ v') ∧ Below n₀ W (w1.setCell ⟨B, 0, none⟩ v') ∧ ∀ g, g < n₁ → g ≠ B → (w1.setCell ⟨B, 0, none⟩ v').heap[g]? = W.heap[g]? := by
  have hrb : ∀ j, v.ownBlock = some j → ∃ cur, W.heap[j]? = some (.cells cur e (0, 0)) ∧ n₁ ≤ j := fun j ej => by
    rcases hrow.2 with ⟨rfl, _⟩ | ⟨g, cap, cur, rfl, hb, hgb, _⟩
    · simp [Value.ownBlock] at ej
    · obtain rfl : g = j := by simpa [Value.ownBlock] using ej
      exact ⟨cur, hgb, hb⟩
  have hvX : Boxed X B t v := (hx.block B hv.lt).trans hv
  have hv1 : Boxed w1 B t v := hvX.kept hgrow (fun e' => by
    obtain ⟨_, _, h⟩ := hrb B e'.symm
    omega)
  have hne : v'.ownBlock ≠ some B := fun e' => by
    rcases hown'.2 with ⟨rfl, _⟩ | ⟨g, cap, cur, rfl, hb, _, _⟩
    · simp [Value.ownBlock] at e'
    · obtain rfl : g = B := by simpa [Value.ownBlock] using e'
      omega
  refine ⟨hv1, hv1.set v', hown'.kept (grownBy_setCell' w1 B v') (.inr hne), ?_, ?_, ?_⟩
  · refine (hx.others.trans (KeepsOthers.of_grownBy hgrow fun j o ej hj => ?_)).trans (KeepsOthers.setCell _ _ _)
    obtain ⟨cur, hc, _⟩ := hrb j ej
    rw [hx.block j (Array.getElem?_eq_some_iff.1 hc).1, hc] at hj
    cases hj; rfl
  · exact ((Below.mono hx.below (Nat.le_trans hn hn₁)).grown hgrow (Nat.le_trans (Nat.le_trans hn hn₁) hx.size) fun j ej => Nat.le_trans hn (hrb j ej).choose_spec.2).setCell (p := ⟨B, 0, none⟩) hB v'
  · intro g hg hgB
    have hlt : g < W.heap.size := by omega
    rw [Below.heap_setCell w1 ⟨B, 0, none⟩ v' g hgB, hgrow.block g (Nat.lt_of_lt_of_le hlt hx.size) (fun e' => by
      obtain ⟨_, _, h⟩ := hrb g e'.symm
      omega), hx.block g hlt]
theorem one_at6 {w : World} {g : Nat} {a : Value} (h : w.cell? ⟨g, 0, none⟩ = some a) : ∀ (j : Nat) (u : Value), [a][j]? = some u → w.cell? ((⟨g, 0, none⟩ : Addr).add j) = some u := fun j u hu => by
  rw [at0]
  match j, hu with
  | 0, hu => injection hu with hu; subst hu; exact h
  | j + 1, hu => simp at hu
theorem RowN.nil9 (W : World) (B : Nat) : RowN W B 3 1 .i64 (.slice none 0 0) ([] : List Int).length [] := World.ownsRow_nil W B _ 1
/-- A word of a log. -/
def VF (F : Nat → Int) (t : Int) (s : MSt) (i : Nat) : Int := peekV s (logN F t ((i : Int)))
/-- The slots that words tell which are not 0. -/
def logL {m : Nat} (V : Nat → Int) (pre : List (Fin m)) : List Int := pre.filterMap (fun x => if V x.val = 0 then none else some (toN (V x.val)))
theorem logL_snoc {m : Nat} (V : Nat → Int) (pre : List (Fin m)) (x : Fin m) : logL V (pre ++ [x]) = logL V pre ++ (if V x.val = 0 then [] else [toN (V x.val)]) := by
  unfold logL
  rw [List.filterMap_append]
  congr 1
  by_cases h : V x.val = 0 <;> simp [h]
theorem logL_len {m : Nat} (V : Nat → Int) (pre : List (Fin m)) : (logL V pre).length ≤ pre.length := List.length_filterMap_le _ _
/-- The slots of a log: Slots. -/
def slotsL (F : Nat → Int) (T L : Nat) (s : MSt) (t : Int) : List Int := if 0 ≤ t ∧ t < (T : Int) then logL (VF F t s) (List.finRange L) else []
theorem fldC0' (t s l b : Int) (w : World) : (Instr.field 23 (.agg #[.int .i64 t, .int .i64 s, .int .i64 l, .int .i64 b]) 0).run Tryz.prog w = .ok (.int .i64 t) w := by kernel_rfl
section
variable {Q : Nat → Prop} {wb w0 w : World} {gm gl : Nat} {dv pv : Value} {s : MSt} {F : Nat → Int} {t : Int}
def SlotsPost (w : World) (zs : List Int) (e : Ending) (w' : World) : Prop := ∃ v, e = .returned v ∧ Row w' w.heap.size 3 .i64 v zs ∧ Ext w w'
set_option maxRecDepth 100000 in
set_option maxHeartbeats 8000000 in
theorem slots_in (h : IsMem Q wb w0 w gm dv pv s) (ok : Okay F) (m : Nat) (hm : m ≤ 500) (hL : F 2 = (m : Int)) (ht0 : 0 ≤ t) (ht1 : t < F 0) (hl : Blk w gl 173 (cellsF F)) :
    Calls Tryz.prog 55 #[.pointer (some ⟨gl, 0, none⟩), .pointer (some ⟨gm, 0, none⟩), .int .i64 t] w (SlotsPost w (logL (VF F t s) (List.finRange m))) := by
  obtain ⟨i0, hi, hz0, hz1, hz2⟩ := info_parts int_info
  have f0 := Blk.new w 31 [.pointer (some ⟨gm, 0, none⟩)]
  have x0 := (Ext.refl w).alloc (.cells #[.pointer (some ⟨gm, 0, none⟩)] 31)
  have HCo := Lib.hid (fun W (x : Ext w W) => conf_ok gl W (hl.ext x))
  have hfl := fun W => fldC0' (F 0) (F 1) (F 2) (F 3) W
  have d0 : decide (t < 0) = false := by simp; omega
  have d1 : decide (F 0 ≤ t) = false := by simp; omega
  have hgl := hl.lt
  have F0 := Lib.hid f0
  have X0 := Lib.hid x0
  have HH := Lib.hid h
  have HLl := Lib.hid hl
  have HOk := Lib.hid ok
  have HTt := Lib.hid hL
  have HU := Lib.hid h.peekU
  clear h hl ok hL f0 x0 ht0 ht1
  refine (callsIn_wide (n := 6)).1 ?_
  refine callsIn_of_wp_marks Tryz.func55 rfl trivial ?_ rfl
  simp only [Tryz.ntmps55, List.size_toArray, List.length_cons, List.length_nil, Nat.reduceAdd, Nat.reduceSub, Array.replicate_succ, Array.replicate_zero, List.push_toArray, List.append_toArray, List.nil_append, List.cons_append]
  gi_wp2_with (first
    | (refine ⟨trivial, ?_⟩; gi_at_call 110; refine (callsIn_wide.2 (HCo.out _ X0.out)).mono ?_; rintro e wc ⟨rfl, xc⟩; have XC := Lib.hid (X0.out.trans xc); have FC := Lib.hid (F0.out.ext xc); clear xc)
    | (refine ⟨trivial, ?_⟩; gi_at_call 128; refine (callsIn_wide.2 (entries_ok gl t 0 _)).mono ?_; rintro e w1 ⟨hh, rfl, eb⟩; have EB := Lib.hid eb; clear eb))
  have hgw : w.heap.size < wc.heap.size := FC.out.lt
  have bX0 := Boxed.new wc 93 (.slice none 0 0)
  have xB : Ext wc (wc.alloc (.cells #[.slice none 0 0] 93)) := (Ext.refl wc).alloc _
  have bX : Boxed w1 wc.heap.size 93 (.slice none 0 0) := (EB.out.x.block wc.heap.size bX0.lt).trans bX0
  have hlo : wc.heap.size + 1 ≤ hh := by have := EB.out.lo; simp at this; omega
  have hs4 := EB.out.sz
  have X1 := Lib.hid (XC.out.trans (xB.trans EB.out.x))
  have F1 := Lib.hid (FC.out.ext (xB.trans EB.out.x))
  have L1 := Lib.hid (HLl.out.ext X1.out)
  have bx2 : Blk w1 (hh + 1 + 1) 3 [.int .i64 (((0 : Nat) : Int))] := EB.out.b2
  generalize wc.heap.size = gB at *
  have hSlt : ∀ g, (g = hh + 1 + 1 ∨ g = hh ∨ g = hh + 1 ∨ g = gl) → g < w1.heap.size := fun g hg => by rcases hg with rfl | rfl | rfl | rfl <;> omega
  have hSB : ∀ g, (g = hh + 1 + 1 ∨ g = hh ∨ g = hh + 1 ∨ g = gl) → g ≠ gB := fun g hg => by rcases hg with rfl | rfl | rfl | rfl <;> omega
  have ownC : OwnFrom w1.heap.size (fun (pre : List (Fin m)) W => ∀ g, g < w1.heap.size → g ≠ gB → W.heap[g]? = w1.heap[g]?) := by
    intro pre A B row h hg hr g hg1 hne
    have hA : g < A.heap.size := (Array.getElem?_eq_some_iff.1 ((h g hg1 hne).trans (Array.getElem?_eq_getElem hg1))).1
    exact (hg.block g hA (fun e => by have := (hr g e.symm).1; omega)).trans (h g hg1 hne)
  clear bX0 xB
  refine wpIn_rangeFunc_ownG rfl (by decide) (gf := 183) (lb := #[.pointer (some ⟨hh + 1 + 1, 0, none⟩), .pointer (some ⟨hh, 0, none⟩), .pointer (some ⟨hh + 1, 0, none⟩)]) rfl trivial (enters_of Tryz.func183 (by kernel_rfl) rfl)
    (ent_stops (6 - 1) (by decide) (hh + 1 + 1) hh (hh + 1) gl 0 m (by omega) (by omega) w1 F HOk.out t (F 2) (by rw [HTt.out]; simp) rfl (fun g => g = hh + 1 + 1 ∨ g = hh ∨ g = hh + 1 ∨ g = gl) (Or.inl rfl) (Or.inr (Or.inl rfl)) (Or.inr (Or.inr (Or.inl rfl))) (Or.inr (Or.inr (Or.inr rfl))) hSlt bx2 EB.out.b0 EB.out.b1 L1.out)
    (fun h k => KeepE.trans h k) (fun W l _ o' hl _ _ _ => KeepE.putObj (B := w1.heap.size) hSlt W l o' hl) (Below.refl _ _) (fun _ => rfl)
    (fun (pre : List (Fin m)) W => (∃ v, Boxed W gB 93 v ∧ W.ownsRow w1.heap.size 3 1 v (logL (VF F t s) pre).length ((logL (VF F t s) pre).map (Value.int .i64)) ∧ True) ∧ Below w.heap.size w W ∧ (∀ g, g < w1.heap.size → g ≠ gB → W.heap[g]? = w1.heap[g]?))
    (fun _ _ _ => False)
    (OwnFrom.and (Own.from (holdsRow_own w1.heap.size gB 93 3 1 (fun pre : List (Fin m) => (logL (VF F t s) pre).length) (fun pre : List (Fin m) => (logL (VF F t s) pre).map (Value.int .i64)) (fun _ _ => True)) _) (OwnFrom.and (ownFrom_below (Nat.le_refl _) (by omega)) ownC))
    (fun _ _ _ _ _ hs _ _ => hs)
    ⟨⟨_, bX, World.ownsRow_nil w1 _ _ 1, trivial⟩, X1.out.below, fun _ _ _ => rfl⟩
    (fun x => { tmps := #[.pointer (some ⟨gl, 0, none⟩), .pointer (some ⟨gm, 0, none⟩), .int .i64 t, undef, .pointer (some ⟨w.heap.size, 0, none⟩), undef, .slice none 0 0, .pointer (some ⟨gB, 0, none⟩), undef, .int .i64 (logN F t (x.val : Int)), undef, undef, .int .i64 t, .bool false, .bool false, .int .i64 t, .pointer (some ⟨gl, 0, none⟩), .agg #[.int .i64 (F 0), .int .i64 (F 1), .int .i64 (F 2), .int .i64 (F 3)], .int .i64 (F 0), .bool false, .bool false, .pointer (some ⟨gl, 0, none⟩), .int .i64 t, .func (.func 183) #[] #[.pointer (some ⟨hh + 1 + 1, 0, none⟩), .pointer (some ⟨hh, 0, none⟩), .pointer (some ⟨hh + 1, 0, none⟩)], .int .i64 (x.val : Int), .int .i64 (logN F t (x.val : Int)), undef, undef, undef, undef, undef, undef, undef, undef, undef, undef, undef, undef, undef, undef], defers := [] }) ?assign ?body ?done ?stop
  case assign =>
    intro l x W K hK
    gi_wp2
    exact hK
  case body =>
    rintro l pre x W ⟨⟨v, hv, hrow, _⟩, hB, hKp⟩ hlt
    have hxm := x.isLt
    have hn1W : w1.heap.size ≤ W.heap.size := by
      have h1 := hKp (hh + 1 + 1) (by omega) (by omega)
      have h2 := (Array.getElem?_eq_some_iff.1 (h1.trans (Array.getElem?_eq_getElem (show hh + 1 + 1 < w1.heap.size by omega)))).1
      omega
    have hxw : Ext w W := Ext.of hB
    have hc := hv.cell
    have hvl := hv.lt
    have hcm : W.cell? ⟨w.heap.size, 0, none⟩ = some (.pointer (some ⟨gm, 0, none⟩)) := Blk.cell ((hKp w.heap.size (by omega) (by omega)).trans F1.out) 0
    have hlr := logN_rng HOk.out t (x.val : Int)
    have hvv : peekV s (logN F t (x.val : Int)) = VF F t s x.val := by rfl
    have HPk : Hid (CallsIn (Fence.wide.inRound l) 3 Tryz.prog 82 #[.pointer (some ⟨gm, 0, none⟩), .int .i64 (logN F t (x.val : Int))] W fun e w' => e = .returned (.tuple #[.int .u64 (peekV s (logN F t (x.val : Int))), .bool (peekB s (logN F t (x.val : Int)))]) ∧ W = w') := Lib.hid (CallsIn.inRound l (callsIn_wide.2 ((HH.out.ext hxw).peek _ hlr.1 hlr.2)))
    have hW64 := HU.out (logN F t (x.val : Int))
    rw [hvv] at HPk hW64
    generalize peekB s (logN F t (x.val : Int)) = pb at *
    generalize logN F t (x.val : Int) = aa at *
    clear hlr hvv
    have HTo : Hid (∀ W', CallsIn (Fence.wide.inRound l) 3 Tryz.prog 129 #[.int .u64 (VF F t s x.val)] W' fun e w' => e = .returned (.int .i64 (toN (VF F t s x.val))) ∧ Ext W' w') := Lib.hid (fun W' => CallsIn.inRound l (callsIn_wide.2 (to_any _ hW64.1 hW64.2 W')))
    have hsn := logL_snoc (VF F t s) pre x
    have hll : (logL (VF F t s) pre).length ≤ 500 := by have := logL_len (VF F t s) pre; omega
    clear hW64
    generalize VF F t s x.val = vv at *
    by_cases v0 : vv = 0
    · have d0 : (vv != 0) = false := by simp [v0]
      rw [if_pos v0, List.append_nil] at hsn
      have HSn := Lib.hid hsn
      clear hsn v0
      gi_wp2_with (refine ⟨trivial, ?_⟩; gi_at_call 82; refine HPk.out.mono ?_; rintro e w2 ⟨rfl, rfl⟩)
      exact ⟨KeepsFrom.refl _ _, KeepE.refl _ _, ⟨v, hv, by rw [HSn.out]; exact hrow, trivial⟩, hB, hKp⟩
    · have d0 : (vv != 0) = true := by rw [bne_iff_ne]; exact v0
      rw [if_neg v0] at hsn
      have HRL := Lib.hid hsn
      clear hsn v0
      gi_wp2_with (refine ⟨trivial, ?_⟩; gi_at_call 82; refine HPk.out.mono ?_; rintro e w2 ⟨rfl, rfl⟩)
      refine wpIn_region_orders mixed [[0, 1, 2, 3, 4, 5], [1, 0, 2, 3, 4, 5], [1, 2, 0, 3, 4, 5], [1, 2, 3, 0, 4, 5]] (by kernel_rfl) ?_
      intro ord hord
      simp only [List.mem_cons, List.not_mem_nil, or_false] at hord
      rcases hord with rfl | rfl | rfl | rfl
      all_goals simp only [List.filterMap_cons, List.filterMap_nil, List.getElem?_toArray, List.getElem?_cons_zero, List.getElem?_cons_succ]
      · refine wpListIn_plain rfl (fun K hK => ?_)
        go_simp
        refine hK _ _ ?_
        clear hK K
        refine wpListIn_plain rfl (fun K hK => ?_)
        go_simp
        refine hK _ _ ?_
        clear hK K
        refine wpListIn_plain rfl (fun K hK => ?_)
        go_simp
        refine ⟨trivial, (HTo.out _).mono ?_⟩
        rintro e w2 ⟨rfl, hx1⟩
        have hx2 : Ext W w2 := ((Ext.refl W).drew).trans hx1
        have hc1 : w2.cell? ⟨gB, 0, none⟩ = some v := (Below.cell hx2.below (by exact hvl)).trans hc
        have hc2 : (w2.alloc (.cells #[.int .i64 (toN vv)] 3)).cell? ⟨gB, 0, none⟩ = some v := cellE hc1 ((Ext.refl w2).alloc _)
        have hrow1 := owns_keep9 hrow (fun g hg => hx2.block g (World.ownsRow.lt hrow g hg).2)
        refine hK _ _ ?_
        clear hK K
        refine wpListIn_plain rfl (fun K hK => ?_)
        go_simp
        refine hK _ _ ?_
        clear hK K
        have hone := (Blk.new w2 3 [.int .i64 (toN vv)]).cell 0
        refine wpListIn_append_own _ rfl _ _ 93 rfl w1.heap.size 3 i0 (.int .i64 0) 1 8 Tryz.underlying93 hi hz0 hz1 hz2 rfl (by decide) v (logL (VF F t s) pre).length _ (by rfl) (by exact (World.ownsRow.alloc hrow1 _)) ⟨w2.heap.size, 0, none⟩ 1 1 [.int .i64 (toN vv)] (by rfl) rfl (by exact one_at6 hone) (by intro u hu; obtain rfl := List.mem_singleton.1 hu; rfl) (by unfold maxLen; omega) (by omega) (by have := hn1W; have := hx2.size; simp; omega) ?_
        intro v' w3 hown' hgrow _
        obtain ⟨g', cap', rfl⟩ := ownsRow_succ hown'
        obtain ⟨hv1, hv2, hr2, hk2, hb2, ha2⟩ := collect2 (n₀ := w.heap.size) (n₁ := w1.heap.size) hv hrow (by omega) hn1W (by omega) (by omega) (by exact hx2.alloc _) hown' hgrow
        have hc3 := hv1.cell
        have hf3 := hv1.frozen
        refine wpListIn_plain rfl (fun K hK => ?_)
        go_simp
        refine hK _ _ ?_
        clear hK K
        refine wpListIn_nil ?_
        gi_wp2_with fail
        exact ⟨hk2.from _, fun g hg => ha2 g (hSlt g hg) (hSB g hg), ⟨_, hv2, by rw [HRL.out, List.length_append, List.map_append]; exact hr2, trivial⟩, hB.trans hb2, fun g hg hne => (ha2 g hg hne).trans (hKp g hg hne)⟩
      · refine wpListIn_plain rfl (fun K hK => ?_)
        go_simp
        refine hK _ _ ?_
        clear hK K
        refine wpListIn_plain rfl (fun K hK => ?_)
        go_simp
        refine hK _ _ ?_
        clear hK K
        refine wpListIn_plain rfl (fun K hK => ?_)
        go_simp
        refine ⟨trivial, (HTo.out _).mono ?_⟩
        rintro e w2 ⟨rfl, hx1⟩
        have hx2 : Ext W w2 := ((Ext.refl W).drew).trans hx1
        have hc1 : w2.cell? ⟨gB, 0, none⟩ = some v := (Below.cell hx2.below (by exact hvl)).trans hc
        have hc2 : (w2.alloc (.cells #[.int .i64 (toN vv)] 3)).cell? ⟨gB, 0, none⟩ = some v := cellE hc1 ((Ext.refl w2).alloc _)
        have hrow1 := owns_keep9 hrow (fun g hg => hx2.block g (World.ownsRow.lt hrow g hg).2)
        refine hK _ _ ?_
        clear hK K
        refine wpListIn_plain rfl (fun K hK => ?_)
        go_simp
        refine hK _ _ ?_
        clear hK K
        have hone := (Blk.new w2 3 [.int .i64 (toN vv)]).cell 0
        refine wpListIn_append_own _ rfl _ _ 93 rfl w1.heap.size 3 i0 (.int .i64 0) 1 8 Tryz.underlying93 hi hz0 hz1 hz2 rfl (by decide) v (logL (VF F t s) pre).length _ (by rfl) (by exact (World.ownsRow.alloc hrow1 _)) ⟨w2.heap.size, 0, none⟩ 1 1 [.int .i64 (toN vv)] (by rfl) rfl (by exact one_at6 hone) (by intro u hu; obtain rfl := List.mem_singleton.1 hu; rfl) (by unfold maxLen; omega) (by omega) (by have := hn1W; have := hx2.size; simp; omega) ?_
        intro v' w3 hown' hgrow _
        obtain ⟨g', cap', rfl⟩ := ownsRow_succ hown'
        obtain ⟨hv1, hv2, hr2, hk2, hb2, ha2⟩ := collect2 (n₀ := w.heap.size) (n₁ := w1.heap.size) hv hrow (by omega) hn1W (by omega) (by omega) (by exact hx2.alloc _) hown' hgrow
        have hc3 := hv1.cell
        have hf3 := hv1.frozen
        refine wpListIn_plain rfl (fun K hK => ?_)
        go_simp
        refine hK _ _ ?_
        clear hK K
        refine wpListIn_nil ?_
        gi_wp2_with fail
        exact ⟨hk2.from _, fun g hg => ha2 g (hSlt g hg) (hSB g hg), ⟨_, hv2, by rw [HRL.out, List.length_append, List.map_append]; exact hr2, trivial⟩, hB.trans hb2, fun g hg hne => (ha2 g hg hne).trans (hKp g hg hne)⟩
      · refine wpListIn_plain rfl (fun K hK => ?_)
        go_simp
        refine hK _ _ ?_
        clear hK K
        refine wpListIn_plain rfl (fun K hK => ?_)
        go_simp
        refine ⟨trivial, (HTo.out _).mono ?_⟩
        rintro e w2 ⟨rfl, hx1⟩
        have hx2 : Ext W w2 := ((Ext.refl W).drew).trans hx1
        have hc1 : w2.cell? ⟨gB, 0, none⟩ = some v := (Below.cell hx2.below (by exact hvl)).trans hc
        have hc2 : (w2.alloc (.cells #[.int .i64 (toN vv)] 3)).cell? ⟨gB, 0, none⟩ = some v := cellE hc1 ((Ext.refl w2).alloc _)
        have hrow1 := owns_keep9 hrow (fun g hg => hx2.block g (World.ownsRow.lt hrow g hg).2)
        refine hK _ _ ?_
        clear hK K
        refine wpListIn_plain rfl (fun K hK => ?_)
        go_simp
        refine hK _ _ ?_
        clear hK K
        refine wpListIn_plain rfl (fun K hK => ?_)
        go_simp
        refine hK _ _ ?_
        clear hK K
        have hone := (Blk.new w2 3 [.int .i64 (toN vv)]).cell 0
        refine wpListIn_append_own _ rfl _ _ 93 rfl w1.heap.size 3 i0 (.int .i64 0) 1 8 Tryz.underlying93 hi hz0 hz1 hz2 rfl (by decide) v (logL (VF F t s) pre).length _ (by rfl) (by exact (World.ownsRow.alloc hrow1 _)) ⟨w2.heap.size, 0, none⟩ 1 1 [.int .i64 (toN vv)] (by rfl) rfl (by exact one_at6 hone) (by intro u hu; obtain rfl := List.mem_singleton.1 hu; rfl) (by unfold maxLen; omega) (by omega) (by have := hn1W; have := hx2.size; simp; omega) ?_
        intro v' w3 hown' hgrow _
        obtain ⟨g', cap', rfl⟩ := ownsRow_succ hown'
        obtain ⟨hv1, hv2, hr2, hk2, hb2, ha2⟩ := collect2 (n₀ := w.heap.size) (n₁ := w1.heap.size) hv hrow (by omega) hn1W (by omega) (by omega) (by exact hx2.alloc _) hown' hgrow
        have hc3 := hv1.cell
        have hf3 := hv1.frozen
        refine wpListIn_plain rfl (fun K hK => ?_)
        go_simp
        refine hK _ _ ?_
        clear hK K
        refine wpListIn_nil ?_
        gi_wp2_with fail
        exact ⟨hk2.from _, fun g hg => ha2 g (hSlt g hg) (hSB g hg), ⟨_, hv2, by rw [HRL.out, List.length_append, List.map_append]; exact hr2, trivial⟩, hB.trans hb2, fun g hg hne => (ha2 g hg hne).trans (hKp g hg hne)⟩
      · refine wpListIn_plain rfl (fun K hK => ?_)
        go_simp
        refine hK _ _ ?_
        clear hK K
        refine wpListIn_plain rfl (fun K hK => ?_)
        go_simp
        refine ⟨trivial, (HTo.out _).mono ?_⟩
        rintro e w2 ⟨rfl, hx1⟩
        have hx2 : Ext W w2 := ((Ext.refl W).drew).trans hx1
        have hc1 : w2.cell? ⟨gB, 0, none⟩ = some v := (Below.cell hx2.below (by exact hvl)).trans hc
        have hc2 : (w2.alloc (.cells #[.int .i64 (toN vv)] 3)).cell? ⟨gB, 0, none⟩ = some v := cellE hc1 ((Ext.refl w2).alloc _)
        have hrow1 := owns_keep9 hrow (fun g hg => hx2.block g (World.ownsRow.lt hrow g hg).2)
        refine hK _ _ ?_
        clear hK K
        refine wpListIn_plain rfl (fun K hK => ?_)
        go_simp
        refine hK _ _ ?_
        clear hK K
        refine wpListIn_plain rfl (fun K hK => ?_)
        go_simp
        refine hK _ _ ?_
        clear hK K
        have hone := (Blk.new w2 3 [.int .i64 (toN vv)]).cell 0
        refine wpListIn_append_own _ rfl _ _ 93 rfl w1.heap.size 3 i0 (.int .i64 0) 1 8 Tryz.underlying93 hi hz0 hz1 hz2 rfl (by decide) v (logL (VF F t s) pre).length _ (by rfl) (by exact (World.ownsRow.alloc hrow1 _)) ⟨w2.heap.size, 0, none⟩ 1 1 [.int .i64 (toN vv)] (by rfl) rfl (by exact one_at6 hone) (by intro u hu; obtain rfl := List.mem_singleton.1 hu; rfl) (by unfold maxLen; omega) (by omega) (by have := hn1W; have := hx2.size; simp; omega) ?_
        intro v' w3 hown' hgrow _
        obtain ⟨g', cap', rfl⟩ := ownsRow_succ hown'
        obtain ⟨hv1, hv2, hr2, hk2, hb2, ha2⟩ := collect2 (n₀ := w.heap.size) (n₁ := w1.heap.size) hv hrow (by omega) hn1W (by omega) (by omega) (by exact hx2.alloc _) hown' hgrow
        have hc3 := hv1.cell
        have hf3 := hv1.frozen
        refine wpListIn_plain rfl (fun K hK => ?_)
        go_simp
        refine hK _ _ ?_
        clear hK K
        refine wpListIn_nil ?_
        gi_wp2_with fail
        exact ⟨hk2.from _, fun g hg => ha2 g (hSlt g hg) (hSB g hg), ⟨_, hv2, by rw [HRL.out, List.length_append, List.map_append]; exact hr2, trivial⟩, hB.trans hb2, fun g hg hne => (ha2 g hg hne).trans (hKp g hg hne)⟩
  case done =>
    rintro D ys W hD rfl ⟨⟨v, hv, hrow, _⟩, hB, hKp⟩ hKd
    have hc := hv.cell
    gi_wp2
    refine ⟨by simp, .inl ⟨_, _, rfl, run_takeDeferred hKd, ?_⟩⟩
    exact ⟨_, results_tmp rfl _ _ _, v, rfl, ((show RowN (W.putObj D (.deferred none)) w1.heap.size 3 1 .i64 v (logL (VF F t s) (List.finRange m)).length (logL (VF F t s) (List.finRange m)) from ownsRow_putObj hrow _ hKd rfl).mono (by omega)).row, Ext.of (hB.trans (belowK_b (w := w) (Nat.le_refl _) W D _ _ (by omega) hKd rfl rfl))⟩
  case stop =>
    rintro D c pre W _ _ h _
    exact h.elim
set_option maxRecDepth 100000 in
set_option maxHeartbeats 2000000 in
theorem slots_ok (h : IsMem Q wb w0 w gm dv pv s) (ok : Okay F) (T m : Nat) (hT : F 0 = (T : Int)) (hm : m ≤ 500) (hL : F 2 = (m : Int)) (hl : Blk w gl 173 (cellsF F)) :
    Calls Tryz.prog 55 #[.pointer (some ⟨gl, 0, none⟩), .pointer (some ⟨gm, 0, none⟩), .int .i64 t] w (SlotsPost w (slotsL F T m s t)) := by
  by_cases hr : 0 ≤ t ∧ t < (T : Int)
  · unfold slotsL
    rw [if_pos hr]
    exact slots_in h ok m hm hL hr.1 (by rw [hT]; exact hr.2) hl
  · unfold slotsL
    rw [if_neg hr]
    have x0 := (Ext.refl w).alloc (.cells #[.pointer (some ⟨gm, 0, none⟩)] 31)
    have HCo := Lib.hid (fun W (x : Ext w W) => conf_ok gl W (hl.ext x))
    have hfl := fun W => fldC0' (F 0) (F 1) (F 2) (F 3) W
    have HN := Lib.hid (fun (W : World) => (RowN.row (RowN.nil9 W w.heap.size)))
    have X0 := Lib.hid x0
    clear h ok hl x0
    by_cases ht : t < 0
    · have d0 : decide (t < 0) = true := by simpa using ht
      clear hr
      go_enter Tryz.func55 , Tryz.ntmps55
      go_wp2_with fail
      go_ret
      exact ⟨_, rfl, HN.out _, X0.out⟩
    · have d0 : decide (t < 0) = false := by simpa using ht
      have d1 : decide (F 0 ≤ t) = true := by rw [hT]; simp; omega
      clear hr hT hL
      go_enter Tryz.func55 , Tryz.ntmps55
      go_wp2_with fail
      refine (HCo.out _ X0.out).mono ?_
      rintro e w1 ⟨rfl, x1⟩
      have X1 := Lib.hid (X0.out.trans x1)
      clear x1
      go_wp2_with fail
      go_ret
      exact ⟨_, rfl, HN.out _, X1.out⟩
end
end Go.Proofs.YtbicloceaddinaaGreat


/- Package retire: the steps of Reserve, Stamp and Cancel as one each; the page's example of layer 11. Conditions: those that each theorem names. -/
namespace Go.Proofs.YtbicloceaddinaaGreat
open Go.ChangeShapes Go.WideShapes Go.ChangeAt Go.RowKit
set_option linter.unusedVariables false
theorem rvS_fine {k : Nat} {F : Nat → Int} {t slot : Int} {x : RvM} {s : MSt} (hf : Fine k s.dev) (hk : k ≤ 90) : Fine (k + 1) (rvS F t slot x s).2.dev := by
  unfold rvS
  split
  · exact hf.up
  split
  · exact act_fine hf hk 1 t (logN F t x.place) 0 0
  split
  · exact act_fine hf hk 2 t (logN F t x.place) 0 (entN slot (-1))
  split
  · exact act_fine hf hk 4 t (logN F t x.place) 0 0
  · exact act_fine hf hk 5 t 0 0 0
theorem rvS_calm {n : Int} {F : Nat → Int} {t slot : Int} {x : RvM} {s : MSt} (hc : CalmN n s) : CalmN (n + 1) (rvS F t slot x s).2 := by
  unfold rvS
  split
  · exact hc.mono (by omega)
  split
  · exact act_calm hc 1 t (logN F t x.place) 0 0
  split
  · exact act_calm hc 2 t (logN F t x.place) 0 (entN slot (-1))
  split
  · exact act_calm hc 4 t (logN F t x.place) 0 0
  · exact act_calm hc 5 t 0 0 0
theorem rvS_wf {L : Int} {F : Nat → Int} {t slot : Int} {x : RvM} {s : MSt} (hL : F 2 = L) (hx : x.Wf L) : (rvS F t slot x s).1.Wf L := by
  obtain ⟨place, part, dn⟩ := x
  obtain ⟨hp, ⟨h0, h1⟩, hlt⟩ := hx
  simp only at hp h0 h1 hlt
  unfold rvS
  cases dn
  · have hl := hlt rfl
    rw [if_neg (by simp)]
    split
    · by_cases hv : peekV s (logN F t place) = 0
      · simp only [hv, if_true]
        exact ⟨Or.inl (Or.inr (Or.inl rfl)), ⟨h0, h1⟩, fun _ => hl⟩
      · simp only [hv, if_false]
        refine ⟨Or.inl (Or.inl rfl), ⟨by show 0 ≤ place + 1; omega, by show place + 1 ≤ L; omega⟩, fun hd => ?_⟩
        have hd' : decide (F 2 ≤ place + 1) = false := hd
        rw [hL] at hd'
        have := of_decide_eq_false hd'
        show place + 1 < L
        omega
    split
    · exact ⟨Or.inl (Or.inr (Or.inr (Or.inl rfl))), ⟨h0, h1⟩, fun _ => hl⟩
    split
    · exact ⟨Or.inl (Or.inr (Or.inr (Or.inr rfl))), ⟨h0, h1⟩, fun _ => hl⟩
    · exact ⟨Or.inr rfl, ⟨h0, h1⟩, fun hd => by cases hd⟩
  · rw [if_pos rfl]
    exact ⟨hp, ⟨h0, h1⟩, hlt⟩
theorem RvM.wf0 {L : Int} (h : 0 < L) : (⟨0, 0, false⟩ : RvM).Wf L := ⟨Or.inl (Or.inl rfl), ⟨Int.le_refl 0, by show (0 : Int) ≤ L; omega⟩, fun _ => h⟩
section
variable {Q : Nat → Prop} {w0 w : World} {gm gp gl : Nat} {dv pv : Value} {s : MSt} {F : Nat → Int} {t slot place : Int}
/-- **A STEP OF A RESERVE.** -/
theorem rvStep_ok {x : RvM} {L i : Nat} (h : IsMem Q w w0 w gm dv pv s) (hc : Calm s) (hi : i ≤ 1000) (fine : Fine i s.dev) (ok : Okay F) (hs : I64 slot) (hx : x.Wf (L : Int)) (hL : F 2 = (L : Int)) (hL5 : L ≤ 500) (hb : Blk w gp 195 (x.cells gl t slot)) (hl : Blk w gl 173 (cellsF F)) (qp : Q gp) (ql : Q gl) (nlp : gl ≠ gp) (p0 : w0.heap.size ≤ gp) :
    Calls Tryz.prog 54 #[.pointer (some ⟨gp, 0, none⟩), .pointer (some ⟨gm, 0, none⟩)] w (StepPost Q w0 w gm gp 195 dv pv (rvS F t slot x s).2 (rvS F t slot x s).1.dn ((rvS F t slot x s).1.cells gl t slot)) := by
  obtain ⟨place, part, dn⟩ := x
  obtain ⟨hp, ⟨h0, h1⟩, hlt⟩ := hx
  simp only at hp h0 h1 hlt
  cases dn
  · have hl0 := hlt rfl
    rcases hp with (rfl | rfl | rfl | rfl) | hd
    · obtain ⟨k, rfl⟩ := Int.eq_ofNat_of_zero_le h0
      have e : rvS F t slot ⟨(k : Int), 0, false⟩ s = (if peekV s (logN F t k) = 0 then ⟨(k : Int), 1, false⟩ else ⟨(k : Int) + 1, 0, decide (F 2 ≤ (k : Int) + 1)⟩, s.load t (logN F t k)) := rfl
      rw [e]
      exact rvStep_0 h hc ok k (L - k) (by omega) (by omega) (by omega) (by omega) hb hl qp ql nlp p0
    · exact rvStep_1 h hc ok hs hb hl qp ql nlp p0
    · exact rvStep_2 h hc ok hs hi fine hb hl qp ql nlp p0
    · exact rvStep_3 h hc ok hs hi fine hb hl qp ql nlp p0
    · cases hd
  · exact rvStep_done h hc ok hb hl qp ql nlp p0
/-- **A STEP OF A STAMP.** -/
theorem stStep_ok {x : StM} {i : Nat} (h : IsMem Q w w0 w gm dv pv s) (hc : Calm s) (hi : i ≤ 1000) (fine : Fine i s.dev) (ok : Okay F) (hs : I64 slot) (hx : x.Wf) (hF : F 21 = -1) (hb : Blk w gp 203 (x.cells gl t place slot)) (hl : Blk w gl 173 (cellsF F)) (qp : Q gp) (ql : Q gl) (nlp : gl ≠ gp) (p0 : w0.heap.size ≤ gp) :
    Calls Tryz.prog 62 #[.pointer (some ⟨gp, 0, none⟩), .pointer (some ⟨gm, 0, none⟩)] w (StepPost Q w0 w gm gp 203 dv pv (stS F t place slot x s).2 (stS F t place slot x s).1.dn ((stS F t place slot x s).1.cells gl t place slot)) := by
  obtain ⟨part, ep, dn⟩ := x
  obtain ⟨hp, hw⟩ := hx
  simp only at hp
  cases dn
  · rcases hp with (rfl | rfl | rfl | rfl) | hd
    · exact stStep_0 h hc ok hF hb hl qp ql nlp p0
    · exact stStep_1 h hc ok hs rfl hb hl qp ql nlp p0
    · exact stStep_2 h hc ok hs rfl hi fine hb hl qp ql nlp p0
    · exact stStep_3 h hc ok hs rfl hi fine hb hl qp ql nlp p0
    · cases hd
  · exact stStep_done h hc ok hb hl qp ql nlp p0
/-- **A STEP OF A CANCEL.** -/
theorem cnStep_ok {dn : Bool} (h : IsMem Q w w0 w gm dv pv s) (hc : Calm s) (ok : Okay F) (hb : Blk w gp 201 (cnCells gl t place dn)) (hl : Blk w gl 173 (cellsF F)) (qp : Q gp) (ql : Q gl) (nlp : gl ≠ gp) (p0 : w0.heap.size ≤ gp) :
    Calls Tryz.prog 61 #[.pointer (some ⟨gp, 0, none⟩), .pointer (some ⟨gm, 0, none⟩)] w (StepPost Q w0 w gm gp 201 dv pv (cnS F t place dn s) true (cnCells gl t place true)) := by
  cases dn
  · exact cnStep_0 h hc ok hb hl qp ql nlp p0
  · exact cnStep_done h hc ok hb hl qp ql nlp p0
end
def stepsR (f : RvM → MSt → RvM × MSt) (p : RvM × MSt) : Nat → RvM × MSt
  | 0 => p
  | k + 1 => f (stepsR f p k).1 (stepsR f p k).2
def F11 : Nat → Int := layF 1 1 1 1
def s11 : MSt := groundSt 1 1 1 1 []
def a11 (k : Nat) : RvM × MSt := stepsR (rvS F11 0 0) (⟨0, 0, false⟩, s11) k
def b11 (k : Nat) : RvM × MSt := stepsR (rvS F11 0 0) (⟨0, 0, false⟩, (a11 9).2) k
theorem a11_end : (a11 9).1.dn = true ∧ (a11 9).1.tells 1 = 0 := by decide +kernel
theorem b11_end : (b11 9).1.dn = true ∧ (b11 9).1.tells 1 = -1 ∧ slotsL F11 1 1 (b11 9).2 0 = [0] := by decide +kernel
theorem F11_2 : F11 2 = ((1 : Nat) : Int) := by decide +kernel
theorem run11 (s : MSt) (h1 : Fine 30 s.dev) (h2 : CalmN 100 s) : ∀ k : Nat, k ≤ 9 → (stepsR (rvS F11 0 0) (⟨0, 0, false⟩, s) k).1.Wf ((1 : Nat) : Int) ∧ Fine (30 + k) (stepsR (rvS F11 0 0) (⟨0, 0, false⟩, s) k).2.dev ∧ CalmN (100 + k) (stepsR (rvS F11 0 0) (⟨0, 0, false⟩, s) k).2
  | 0, _ => ⟨RvM.wf0 (by decide), h1, by show CalmN (100 + ((0 : Nat) : Int)) s; simpa using h2⟩
  | k + 1, hk => by
    obtain ⟨h3, h4, h5⟩ := run11 s h1 h2 k (by omega)
    exact ⟨rvS_wf F11_2 h3, rvS_fine (k := 30 + k) h4 (by omega), by have := rvS_calm (F := F11) (t := 0) (slot := 0) (x := (stepsR (rvS F11 0 0) (⟨0, 0, false⟩, s) k).1) h5; rw [show (100 : Int) + ((k + 1 : Nat) : Int) = 100 + (k : Int) + 1 by omega]; exact this⟩
theorem Fine.le' {i j : Nat} {s : DSt} (h : Fine i s) (hij : i ≤ j) : Fine j s := by
  induction j with
  | zero =>
    have e : i = 0 := by omega
    subst e
    exact h
  | succ j ih =>
    by_cases e : i = j + 1
    · rw [← e]; exact h
    · exact (ih (by omega)).up
theorem a11_all : ∀ k : Nat, k ≤ 9 → (a11 k).1.Wf ((1 : Nat) : Int) ∧ Fine (30 + k) (a11 k).2.dev ∧ CalmN (100 + k) (a11 k).2 := run11 s11 ((ground_fine 1 1 1 1 []).le' (by omega)) (ground_calm 1 1 1 1 [] (by decide))
theorem b11_all : ∀ k : Nat, k ≤ 9 → (b11 k).1.Wf ((1 : Nat) : Int) ∧ (∃ i, i ≤ 90 ∧ Fine i (b11 k).2.dev) ∧ CalmN (200 + k) (b11 k).2
  | 0, _ => ⟨RvM.wf0 (by decide), ⟨39, by omega, (a11_all 9 (by omega)).2.1⟩, (a11_all 9 (by omega)).2.2.mono (by omega)⟩
  | k + 1, hk => by
    have key : ∀ k : Nat, k ≤ 9 → (b11 k).1.Wf ((1 : Nat) : Int) ∧ Fine (39 + k) (b11 k).2.dev ∧ CalmN (200 + k) (b11 k).2 := fun k => by
      induction k with
      | zero => exact fun _ => ⟨RvM.wf0 (by decide), (a11_all 9 (by omega)).2.1, (a11_all 9 (by omega)).2.2.mono (by omega)⟩
      | succ k ih =>
        intro hk
        obtain ⟨h3, h4, h5⟩ := ih (by omega)
        exact ⟨rvS_wf F11_2 h3, rvS_fine (k := 39 + k) h4 (by omega), by have := rvS_calm (F := F11) (t := 0) (slot := 0) (x := (b11 k).1) h5; rw [show (200 : Int) + ((k + 1 : Nat) : Int) = 200 + (k : Int) + 1 by omega]; exact this⟩
    obtain ⟨h3, h4, h5⟩ := key (k + 1) hk
    exact ⟨h3, ⟨39 + (k + 1), by omega, h4⟩, h5⟩
theorem gr11 : GrOk ((1 : Nat) : Int) ((1 : Nat) : Int) ((1 : Nat) : Int) ((1 : Nat) : Int) := ⟨⟨by decide, by decide, by decide, by decide⟩, by decide, by decide, by decide, by decide⟩
theorem ok11 : Okay F11 := okayF gr11.1
set_option maxRecDepth 100000 in
set_option maxHeartbeats 4000000 in
theorem awake11_ok (w : World) : Calls Tryz.prog 8 #[] w fun e w' => e = .returned (.bool true) ∧ Ext w w' := by
  have HLa : Hid (∀ W, Calls Tryz.prog 7 #[.agg #[.int .i64 1, .int .i64 1, .int .i64 1, .int .i64 1, .slice none 0 0]] W (GrNew W 1 1 1 1 [])) := Lib.hid (fun W => lay_ok W none 0 0 1 1 1 1 [] gr11 rfl (by decide) (fun h => absurd h (by decide)))
  go_enter Tryz.func8, Tryz.ntmps8
  go_wp2_with fail
  refine (HLa.out _).mono ?_
  rintro e w2 ⟨gl, gm, dv, pv, g, R, rv, rfl, bl, gr⟩
  have BL := Lib.hid bl
  have GR := Lib.hid gr
  clear bl gr HLa
  go_wp2_with fail
  refine (newReserve_ok w2 gl 0 0).mono ?_
  rintro e w3 ⟨gp, rfl, lp, bp, x3⟩
  have BP := Lib.hid bp
  have X3 := Lib.hid x3
  clear bp x3
  go_wp2_with fail
  refine (newReserve_ok w3 gl 0 0).mono ?_
  rintro e w4 ⟨gq, rfl, lq, bq, x4⟩
  have hp4 : gp < w4.heap.size := (BP.out.ext x4).lt
  have hq4 : gq < w4.heap.size := bq.lt
  have hl4 : gl < w4.heap.size := (BL.out.ext (X3.out.trans x4)).lt
  have M4 : Hid (IsMem (fun q => q = gl ∨ q = gp ∨ q = gq) w4 w w4 gm dv pv (a11 0).2) := Lib.hid (GR.out.mem.hold (X3.out.trans x4) (fun b hb => by
    rcases hb with e | e | e
    · rw [e]; exact ⟨hl4, Or.inl (Or.inr rfl)⟩
    · rw [e]; exact ⟨hp4, Or.inr lp⟩
    · rw [e]; exact ⟨hq4, Or.inr (Nat.le_trans X3.out.size lq)⟩))
  have BL4 : Hid (Blk w4 gl 173 (cellsF F11)) := Lib.hid (BL.out.ext (X3.out.trans x4))
  have BP4 : Hid (Blk w4 gp 195 ((a11 0).1.cells gl 0 0)) := Lib.hid (BP.out.ext x4)
  have BQ4 : Hid (Blk w4 gq 195 ((b11 0).1.cells gl 0 0)) := Lib.hid bq
  have hw1 : w.heap.size ≤ gp := Nat.le_trans GR.out.mem.lt.1.size lp
  have hw1q : w.heap.size ≤ gq := Nat.le_trans GR.out.mem.lt.1.size (Nat.le_trans X3.out.size lq)
  have npq : gp ≠ gq := by
    have := BP.out.lt
    omega
  have npl : gl ≠ gp := by have := BL.out.lt; omega
  have nql : gl ≠ gq := by have := BL.out.lt; have := X3.out.size; omega
  clear bq x4 BL BP X3 GR lp lq
  go_wp2_with fail
  go_loopw [7] (fun i wr => ∃ k : Nat, k ≤ 9 ∧ i = .int .i64 k ∧ IsMem (fun q => q = gl ∨ q = gp ∨ q = gq) wr w wr gm dv pv (a11 k).2 ∧ Blk wr gl 173 (cellsF F11) ∧ Blk wr gp 195 ((a11 k).1.cells gl 0 0) ∧ Blk wr gq 195 ((b11 0).1.cells gl 0 0)) (fun i _ => 9 - (intOf i).toNat)
  case atStart => exact ⟨0, by omega, rfl, M4.out, BL4.out, BP4.out, BQ4.out⟩
  case round =>
    obtain ⟨k, hk, rfl, mk, lk, pk, qk⟩ := hrel
    have MK := Lib.hid mk
    have LK := Lib.hid lk
    have PK := Lib.hid pk
    have QK := Lib.hid qk
    clear mk lk pk qk M4 BL4 BP4 BQ4
    by_cases hlt : k < 9
    · have v1 : decide (k < 9) = true := by simp; omega
      have v2 : decide ((k : Int) < 9) = true := by simp; omega
      have ha := a11_all k hk
      have HSt := Lib.hid (rvStep_ok (slot := 0) (L := 1) (i := 30 + k) MK.out (ha.2.2.calm (by omega)) (by omega) ha.2.1 ok11 ⟨by decide, by decide⟩ ha.1 F11_2 (by omega) PK.out LK.out (Or.inr (Or.inl rfl)) (Or.inl rfl) npl hw1)
      have e1 : rvS F11 0 0 (a11 k).1 (a11 k).2 = a11 (k + 1) := rfl
      rw [e1] at HSt
      clear e1 ha
      go_wp2_with fail
      refine HSt.out.mono ?_
      rintro e w5 ⟨rfl, m5, b5, k5⟩
      have M5 := Lib.hid m5
      have B5 := Lib.hid b5
      have K5 := Lib.hid k5
      clear m5 b5 k5 HSt
      go_wp2_with fail
      go_roundw
      case rel => exact ⟨k + 1, by omega, by go_num, M5.out, (K5.out gl (Or.inl rfl) npl).trans LK.out, B5.out, (K5.out gq (Or.inr (Or.inr rfl)) npq.symm).trans QK.out⟩
      case measure => simp [intOf]; omega
    · have v1 : decide (k < 9) = false := by simp; omega
      have v2 : decide ((k : Int) < 9) = false := by simp; omega
      obtain rfl : k = 9 := by omega
      have M5 : Hid (IsMem (fun q => q = gl ∨ q = gp ∨ q = gq) wr w wr gm dv pv (b11 0).2) := MK
      generalize wr = wz at *
      go_wp2_with fail
      rw [show ((9 : Nat) : Int) = 9 from rfl]
      go_loopw [8] (fun i wr => ∃ k : Nat, k ≤ 9 ∧ i = .int .i64 k ∧ IsMem (fun q => q = gl ∨ q = gp ∨ q = gq) wr w wr gm dv pv (b11 k).2 ∧ Blk wr gl 173 (cellsF F11) ∧ Blk wr gp 195 ((a11 9).1.cells gl 0 0) ∧ Blk wr gq 195 ((b11 k).1.cells gl 0 0)) (fun i _ => 9 - (intOf i).toNat)
      case atStart => exact ⟨0, by omega, rfl, M5.out, LK.out, PK.out, QK.out⟩
      case round =>
        obtain ⟨k, hk, rfl, mk, lk, pk, qk⟩ := hrel
        have MK2 := Lib.hid mk
        have LK2 := Lib.hid lk
        have PK2 := Lib.hid pk
        have QK2 := Lib.hid qk
        clear mk lk pk qk M5 MK LK PK QK
        by_cases hlt : k < 9
        · have v1 : decide (k < 9) = true := by simp; omega
          have v2 : decide ((k : Int) < 9) = true := by simp; omega
          obtain ⟨hbw, ⟨i, hi9, hbf⟩, hbc⟩ := b11_all k hk
          have HSt := Lib.hid (rvStep_ok (slot := 0) (L := 1) (i := i) MK2.out (hbc.calm (by omega)) (by omega) hbf ok11 ⟨by decide, by decide⟩ hbw F11_2 (by omega) QK2.out LK2.out (Or.inr (Or.inr rfl)) (Or.inl rfl) nql hw1q)
          have e1 : rvS F11 0 0 (b11 k).1 (b11 k).2 = b11 (k + 1) := rfl
          rw [e1] at HSt
          clear e1 hbw hbf hbc
          go_wp2_with fail
          refine HSt.out.mono ?_
          rintro e w5 ⟨rfl, m5, b5, k5⟩
          have M5 := Lib.hid m5
          have B5 := Lib.hid b5
          have K5 := Lib.hid k5
          clear m5 b5 k5 HSt
          go_wp2_with fail
          go_roundw
          case rel => exact ⟨k + 1, by omega, by go_num, M5.out, (K5.out gl (Or.inl rfl) nql).trans LK2.out, (K5.out gp (Or.inr (Or.inl rfl)) npq).trans PK2.out, B5.out⟩
          case measure => simp [intOf]; omega
        · have v1 : decide (k < 9) = false := by simp; omega
          have v2 : decide ((k : Int) < 9) = false := by simp; omega
          obtain rfl : k = 9 := by omega
          have hs := slots_ok (t := 0) MK2.out ok11 1 1 (by decide +kernel) (by omega) F11_2 LK2.out
          rw [b11_end.2.2] at hs
          have HS := Lib.hid hs
          clear hs
          generalize wr = wy at *
          go_wp2_with fail
          refine HS.out.mono ?_
          rintro e w6 ⟨v, rfl, row, x6⟩
          obtain ⟨gc, cc, rfl, _, _, _, _⟩ := (RowN.of_row row).at_ (by decide)
          have hc0 : w6.cell? ⟨gc, 0, none⟩ = some (.int .i64 0) := RowN.cell (j := 0) (RowN.of_row row) (by decide)
          have L6 := Lib.hid (LK2.out.ext x6)
          have P6 := Lib.hid (PK2.out.ext x6)
          have Q6 := Lib.hid (QK2.out.ext x6)
          have HC0 := Lib.hid (fun W (x : Ext w6 W) => cellE hc0 x)
          have X6 := Lib.hid (MK2.out.lt.1.trans x6)
          have dA : ∀ W, Ext w6 W → W.cell? ⟨gp, 2, none⟩ = some (.bool true) := fun W x => by rw [← a11_end.1]; exact (P6.out.ext x).cell 2
          have dB : ∀ W, Ext w6 W → W.cell? ⟨gq, 2, none⟩ = some (.bool true) := fun W x => by rw [← b11_end.1]; exact (Q6.out.ext x).cell 2
          have HDA := Lib.hid (fun W x => doneReserve_ok W gp true (dA W x))
          have HDB := Lib.hid (fun W x => doneReserve_ok W gq true (dB W x))
          have pA := fun W (x : Ext w6 W) => place_ok (F := F11) W gp gl (a11 9).1 0 0 (P6.out.ext x) (L6.out.ext x)
          rw [show F11 2 = 1 from F11_2, a11_end.2] at pA
          have HPA := Lib.hid pA
          have pB := fun W (x : Ext w6 W) => place_ok (F := F11) W gq gl (b11 9).1 0 0 (Q6.out.ext x) (L6.out.ext x)
          rw [show F11 2 = 1 from F11_2, b11_end.2.1] at pB
          have HPB := Lib.hid pB
          clear row x6 hc0 dA dB pA pB HS MK2 LK2 PK2 QK2
          go_wp2_with fail
          refine (HDA.out _ (Ext.refl _)).mono ?_
          rintro e w' ⟨rfl, rfl⟩
          go_wp2_with fail
          refine (HPA.out _ (Ext.refl _)).mono ?_
          rintro e w7 ⟨rfl, x7⟩
          have X7 := Lib.hid x7
          clear x7
          go_wp2_with fail
          refine (HDB.out _ X7.out).mono ?_
          rintro e w' ⟨rfl, rfl⟩
          go_wp2_with fail
          refine (HPB.out _ X7.out).mono ?_
          rintro e w8 ⟨rfl, x8⟩
          have X8 := Lib.hid (X7.out.trans x8)
          have hc8 : w8.cell? ⟨gc, 0, none⟩ = some (.int .i64 0) := HC0.out w8 X8.out
          clear x8 X7
          go_wp2_with fail
          go_ret
          exact ⟨rfl, X6.out.trans X8.out⟩
end Go.Proofs.YtbicloceaddinaaGreat

