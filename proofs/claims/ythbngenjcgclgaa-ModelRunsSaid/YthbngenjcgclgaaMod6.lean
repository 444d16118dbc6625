/- Layer 8: slices.DeleteFunc of pairs: the walk. Conditions: those that each theorem names. -/
import Derived.Test.YthbngenjcgclgaaMod5
namespace Go.Proofs.Ythbngenjcgclgaa
open Go.ChangeShapes Go.WideShapes Go.ChangeAt Go.RowKit
set_option linter.unusedVariables false
theorem PRow.fr {w w' : World} {B : Nat} {v : Value} {ps : List Pr} {S : Nat → Prop} (h : PRow w B v ps) (x : Fr S w w') (hS : ∀ g, v.ownBlock = some g → ¬ S g) : PRow w' B v ps := RowN.fr h x hS
theorem PRow.ext {w w' : World} {B : Nat} {v : Value} {ps : List Pr} (h : PRow w B v ps) (x : Ext w w') : PRow w' B v ps := RowN.ext h x
theorem left_all {f : Pr → Bool} {l : List Pr} (h : ∀ p ∈ l, f p = false) : left f l = l := by
  unfold left
  rw [List.filter_eq_self]
  intro p hp
  simp [h p hp]
/-- What lies in a row while it is gone through. -/
structure Mid (f : Pr → Bool) (ps zs : List Pr) (a b : Nat) : Prop where
  len : zs.length = ps.length
  ab : a < b
  bn : b ≤ ps.length
  al : a = (left f (ps.take b)).length
  tk : zs.take a = left f (ps.take b)
  dr : ∀ j, b ≤ j → zs.getD j (0, 0) = ps.getD j (0, 0)
theorem Mid.skip {f : Pr → Bool} {ps zs : List Pr} {a b : Nat} (h : Mid f ps zs a b) (hb : b < ps.length) (hf : f (ps.getD b (0, 0)) = true) : Mid f ps zs a (b + 1) := by
  have e : left f (ps.take (b + 1)) = left f (ps.take b) := by rw [left_step f ps b hb, if_pos hf, List.append_nil]
  exact ⟨h.len, by have := h.ab; omega, by omega, by rw [e]; exact h.al, by rw [e]; exact h.tk, fun j hj => h.dr j (by omega)⟩
theorem Mid.move {f : Pr → Bool} {ps zs : List Pr} {a b : Nat} (h : Mid f ps zs a b) (hb : b < ps.length) (hf : f (ps.getD b (0, 0)) = false) : Mid f ps (zs.set a (ps.getD b (0, 0))) (a + 1) (b + 1) := by
  have e : left f (ps.take (b + 1)) = left f (ps.take b) ++ [ps.getD b (0, 0)] := by rw [left_step f ps b hb, if_neg (by rw [hf]; decide)]
  have hab := h.ab
  have hl := h.len
  refine ⟨by rw [List.length_set]; exact hl, by omega, by omega, by rw [e, List.length_append, ← h.al]; rfl, ?_, fun j hj => ?_⟩
  · rw [e, ← h.tk, take_one _ a (by rw [List.length_set]; omega)]
    congr 1
    · rw [List.take_set, List.set_eq_of_length_le (by simp; omega)]
    · rw [List.getD_eq_getElem?_getD, List.getElem?_set]
      simp [show a < zs.length by omega]
  · have := h.dr j (by omega)
    rw [List.getD_eq_getElem?_getD, List.getElem?_set, if_neg (by omega), ← List.getD_eq_getElem?_getD]
    exact this
theorem Mid.start {f : Pr → Bool} {ps : List Pr} {i : Nat} (hi : i < ps.length) (ht : f (ps.getD i (0, 0)) = true) (hn : ∀ j, j < i → f (ps.getD j (0, 0)) = false) : Mid f ps ps i (i + 1) := by
  have e0 : left f (ps.take i) = ps.take i := left_none f _ (fun j hj => by
    have hj' : j < i := by simp at hj; omega
    rw [List.getD_eq_getElem?_getD, List.getElem?_take, if_pos hj', ← List.getD_eq_getElem?_getD]
    exact hn j hj')
  have e : left f (ps.take (i + 1)) = ps.take i := by rw [left_step f ps i hi, if_pos ht, List.append_nil, e0]
  exact ⟨rfl, by omega, by omega, by rw [e]; simp; omega, by rw [e], fun _ _ => rfl⟩
theorem Mid.done {f : Pr → Bool} {ps zs : List Pr} {a : Nat} (h : Mid f ps zs a ps.length) : zs.take a = left f ps := by rw [h.tk, List.take_length]
set_option maxRecDepth 100000 in
set_option maxHeartbeats 2000000 in
theorem delP_ok (w : World) (B : Nat) (v : Value) (ps : List Pr) (f : Pr → Bool) (c0 c1 : Value) (hn : ps.length ≤ 1000000) (h : PRow w B v ps) (hB : B ≤ w.heap.size)
    (hf : ∀ (W : World) (p : Pr), Fr (fun b => v.ownBlock = some b) w W → Calls Try.prog 40 #[.agg #[.int .u32 p.1, .int .u32 p.2], c0, c1] W fun e w' => e = .returned (.bool (f p)) ∧ Ext W w') :
    Calls Try.prog 39 #[v, .func (.func 40) #[] #[c0, c1]] w fun e w' => ∃ v', e = .returned v' ∧ PRow w' B v' (left f ps) ∧ Fr (fun b => v.ownBlock = some b) w w' ∧ v'.ownBlock = v.ownBlock := by
  have HH := Lib.hid h
  have HF := Lib.hid hf
  obtain ⟨A, c, rfl, hnc, hcm, hP⟩ := h.form
  have HI := Lib.hid (idxCut_ok w A ps.length c ps f c0 c1 rfl hn hP (fun W p x => hf W p (Fr.of_ext x)))
  clear h hf hP
  obtain ⟨n, hl⟩ : ∃ n, ps.length = n := ⟨_, rfl⟩
  rw [hl] at HI hn hnc HH HF ⊢
  have HL := Lib.hid hl
  clear hl
  by_cases hi : idxP ps f = -1
  · rw [hi] at HI
    have HQ := Lib.hid (left_all (idxP_no f ps hi))
    clear hi
    go_enter Try.func39, Try.ntmps39
    go_wp2_with fail
    refine HI.out.mono ?_
    rintro e w1 ⟨rfl, x1⟩
    have R1 := Lib.hid (HH.out.ext x1)
    have X1 := Lib.hid x1
    clear x1
    go_wp2_with fail
    go_ret
    exact ⟨_, rfl, by rw [HQ.out]; exact R1.out, Fr.of_ext X1.out, rfl⟩
  · have hge := (idxP_ge f ps).1
    obtain ⟨i, e, hil, hit, hin⟩ := idxP_yes f ps (by omega)
    rw [e] at HI
    rw [HL.out] at hil
    have M0 := Lib.hid (Mid.start (f := f) (ps := ps) (i := i) (by rw [HL.out]; exact hil) hit hin)
    clear hi hge e hit hin
    obtain ⟨g, c', e', _, _, hBg, hgl⟩ := RowN.at_ (show RowN w B 46 2 .u32 (.slice A n c) n (flat ps) by have := HH.out; unfold PRow at this; rw [HL.out] at this; exact this) (by omega)
    injection e' with e1 _ e3
    subst e1 e3
    have hne : ¬ (i : Int) = -1 := by omega
    have hne2 : ((i : Int) == -1) = false := by simp
    go_enter Try.func39, Try.ntmps39
    go_wp2_with fail
    refine HI.out.mono ?_
    rintro e w1 ⟨rfl, x1⟩
    have R1 := Lib.hid (HH.out.ext x1)
    have F1 : Hid (Fr (fun b => b = g) w w1) := Lib.hid (Fr.of_ext x1)
    clear x1 HI
    go_wp2_with fail
    go_loopw [5, 6] (fun i j wr => ∃ (a b : Nat) (zs : List Pr), i = .int .i64 a ∧ j = .int .i64 b ∧ Mid f ps zs a b ∧ PRow wr B (.slice (some ⟨g, 0, none⟩) n c) zs ∧ Fr (fun b => b = g) w wr) (fun _ j _ => n - (intOf j).toNat)
    case atStart => exact ⟨i, i + 1, ps, rfl, by go_num, M0.out, R1.out, F1.out⟩
    case round =>
      clear R1 F1 M0
      obtain ⟨a, b, zs, rfl, rfl, mid, rk, fk⟩ := hrel
      have MI := Lib.hid mid
      have RK := Lib.hid rk
      have FK := Lib.hid fk
      have hab := mid.ab
      have hbn : b ≤ n := by rw [← HL.out]; exact mid.bn
      have hzl : Hid (zs.length = n) := Lib.hid (mid.len.trans HL.out)
      have hgw : g < wr.heap.size := Nat.lt_of_lt_of_le hgl fk.size
      clear mid rk fk
      by_cases hlt : b < n
      · have v1 : decide (b < n) = true := by simp; omega
        obtain ⟨q0, q1, -⟩ := RK.out.cells b (by rw [hzl.out]; exact hlt)
        rw [MI.out.dr b (Nat.le_refl _)] at q0 q1
        obtain ⟨p0, p1, z0, z1, -⟩ := RK.out.cells a (by rw [hzl.out]; omega)
        obtain ⟨r, hr⟩ : ∃ r, f (ps.getD b (0, 0)) = r := ⟨_, rfl⟩
        have HR := Lib.hid hr
        have HFk : Hid (∀ W, Ext wr W → Calls Try.prog 40 #[.agg #[.int .u32 (ps.getD b (0, 0)).1, .int .u32 (ps.getD b (0, 0)).2], c0, c1] W fun e w' => e = .returned (.bool r) ∧ Ext W w') := Lib.hid (fun W x => by
          have := HF.out W (ps.getD b (0, 0)) ((FK.out.then_ext x).mono (fun q _ hq => by rw [hq]; rfl))
          rw [hr] at this
          exact this)
        obtain ⟨z, hz⟩ : ∃ z, ps.getD b (0, 0) = z := ⟨_, rfl⟩
        rw [hz] at q0 q1 HFk
        have HZ := Lib.hid hz
        obtain ⟨za, zb⟩ := z
        simp only at q0 q1 HFk
        generalize (zs.getD a (0, 0)).1 = y0 at p0
        generalize (zs.getD a (0, 0)).2 = y1 at p1
        clear hr hz
        have hgn : ¬ g = wr.heap.size := by omega
        have b9 := Blk.new wr 46 [.int .u32 za, .int .u32 zb]
        have B9 := Lib.hid b9
        clear b9
        go_wp2_with fail
        refine (HFk.out _ ((Ext.refl wr).alloc _)).mono ?_
        rintro e w2 ⟨rfl, x2⟩
        have xx := ((Ext.refl wr).alloc (.cells #[.int .u32 za, .int .u32 zb] 46)).trans x2
        have b9 := B9.out.ext x2
        have R2 := Lib.hid (RK.out.ext xx)
        have F2 := Lib.hid (FK.out.then_ext xx)
        have k0 : w2.cell? ⟨wr.heap.size, 0, none⟩ = some (.int .u32 za) := b9.cell 0
        have k1 : w2.cell? ⟨wr.heap.size, 1, none⟩ = some (.int .u32 zb) := b9.cell 1
        have p0' : w2.cell? ⟨g, a * 2, none⟩ = some (.int .u32 y0) := (World.cell?_of_block (xx.block g hgw)).trans p0
        have p1' : w2.cell? ⟨g, a * 2 + 1, none⟩ = some (.int .u32 y1) := (World.cell?_of_block (xx.block g hgw)).trans p1
        obtain ⟨-, -, z0', z1', -⟩ := R2.out.cells a (by rw [hzl.out]; omega)
        clear x2 xx b9 B9 q0 q1 p0 p1 z0 z1 HFk RK FK
        cases r
        · have hal : a < n := by omega
          have v2 : decide (a < n) = true := by simp; omega
          go_wp2_with fail
          go_roundw
          case rel =>
            refine ⟨a + 1, b + 1, zs.set a (za, zb), by go_num, by go_num, ?_, R2.out.set a za zb, ?_⟩
            · have := MI.out.move (by rw [HL.out]; exact hlt) HR.out
              rw [HZ.out] at this
              exact this
            · exact Fr.setCell (S := fun b => b = g) (p := ⟨g, a * 2 + 1, none⟩) (Fr.setCell (S := fun b => b = g) (p := ⟨g, a * 2, none⟩) F2.out (Or.inl rfl) _) (Or.inl rfl) _
          case measure => simp [intOf]; omega
        · go_wp2_with fail
          go_roundw
          case rel => exact ⟨a, b + 1, zs, rfl, by go_num, MI.out.skip (by rw [HL.out]; exact hlt) HR.out, R2.out, F2.out⟩
          case measure => simp [intOf]; omega
      · have v1 : decide (b < n) = false := by simp; omega
        obtain rfl : n = b := by omega
        obtain ⟨w3, r3, p3, f3⟩ := clear_pairs (w := wr) 0 RK.out a (by rw [hzl.out]; exact hab)
        have hcut := p3.cut a (by simp; rw [hzl.out]; omega)
        have hz2 : (zs.take a ++ List.replicate (zs.length - a) (0, 0)).take a = left f ps := by
          rw [List.take_append_of_le_length (by simp; rw [hzl.out]; omega), List.take_take, Nat.min_self]
          have m := MI.out
          rw [← HL.out] at m
          exact m.done
        rw [hz2] at hcut
        have P3 := Lib.hid hcut
        have F3 : Hid (Fr (fun b => b = g) w w3) := Lib.hid (FK.out.trans f3 (fun _ _ hs => hs))
        have hac : a ≤ c := by omega
        have v2 : decide (a ≤ n) = true := by simp; omega
        have v3 : decide (a ≤ c) = true := by simp; omega
        clear hcut hz2 p3 f3 RK FK MI
        go_wp2_with fail
        go_ret
        exact ⟨_, rfl, P3.out, F3.out.mono (fun q _ hq => by rw [hq]; rfl), rfl⟩
end Go.Proofs.Ythbngenjcgclgaa
