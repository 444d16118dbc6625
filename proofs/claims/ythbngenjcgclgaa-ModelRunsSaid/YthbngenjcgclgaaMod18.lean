/- Layer 8: numbers: slices.DeleteFunc, cut. Conditions: those that each theorem names. -/
import Derived.Test.YthbngenjcgclgaaMod17
namespace Go.Proofs.Ythbngenjcgclgaa
open Go.ChangeShapes Go.WideShapes Go.ChangeAt Go.RowKit
set_option linter.unusedVariables false
theorem u32_info : (Try.prog.info? 32).map (fun i => (i.zero, i.size, i.bytes)) = some (some (.int .u32 0), 1, 4) := by kernel_rfl
/-- A row of numbers of the call's own. -/
def IRow (w : World) (B : Nat) (v : Value) (zs : List Int) : Prop := Row w B 32 .u32 v zs
section
variable {w w' : World} {B g c n : Nat} {v : Value} {zs : List Int}
theorem IRow.form (h : IRow w B v zs) : ∃ A c, v = .slice A zs.length c ∧ zs.length ≤ c ∧ c ≤ maxLen ∧ Ints w .u32 A zs := by
  obtain ⟨A, c, e, h1, h2, hI, _, _⟩ := RowN.form (RowN.of_row h) (by decide)
  exact ⟨A, c, e, h1, h2, hI⟩
theorem IRow.fr {S : Nat → Prop} (h : IRow w B v zs) (x : Fr S w w') (hS : ∀ g, v.ownBlock = some g → ¬ S g) : IRow w' B v zs := Row.fr h x hS
theorem IRow.ext (h : IRow w B v zs) (x : Ext w w') : IRow w' B v zs := Row.ext h x
theorem IRow.len (h : IRow w B (.slice (some ⟨g, 0, none⟩) n c) zs) : n = zs.length := by
  rcases h.2 with ⟨e, _⟩ | ⟨g', c', cur, e, _⟩
  · cases e
  · injection e
theorem IRow.set (h : IRow w B (.slice (some ⟨g, 0, none⟩) n c) zs) (i : Nat) (x : Int) : IRow (w.setCell ⟨g, i, none⟩ (.int .u32 x)) B (.slice (some ⟨g, 0, none⟩) n c) (zs.set i x) := by
  obtain rfl := h.len
  exact (RowN.set (RowN.of_row h) x).row
theorem IRow.cut (h : IRow w B (.slice (some ⟨g, 0, none⟩) n c) zs) (i : Nat) (hi : i ≤ zs.length) : IRow w B (.slice (some ⟨g, 0, none⟩) i c) (zs.take i) := by
  obtain rfl := h.len
  have hl : (zs.take i).length = i := by simp; omega
  rcases h.2 with ⟨e, _⟩ | ⟨g', c', cur, e, hB, hh, hnc, hcm, hcs, ht⟩
  · cases e
  · injection e with e1 _ e3
    injection e1 with e1
    injection e1 with e1
    subst e1 e3
    refine ⟨by rw [List.length_map, Nat.mul_one], Or.inr ⟨g, c, cur, by rw [hl], hB, hh, by rw [hl]; omega, hcm, hcs, ?_⟩⟩
    rw [Nat.mul_one] at ht ⊢
    rw [hl, List.map_take, ← ht, List.take_take, Nat.min_eq_left (by omega)]
theorem IRow.cells (h : IRow w B (.slice (some ⟨g, 0, none⟩) n c) zs) (i : Nat) (hi : i < zs.length) : w.cell? ⟨g, i, none⟩ = some (.int .u32 (zs.getD i 0)) ∧ w.frozen? ⟨g, i, none⟩ = false ∧ g < w.heap.size ∧ n = zs.length := by
  obtain rfl := h.len
  exact ⟨RowN.cell (j := i) (RowN.of_row h) (by omega), RowN.frozen (RowN.of_row h) _, (World.ownsRow.lt h g rfl).2, rfl⟩
/-- clear(s[i:]), of numbers. -/
theorem clear_ints (ty : TypeId) (h : IRow w B (.slice (some ⟨g, 0, none⟩) n c) zs) (i : Nat) (hi : i < zs.length) :
    ∃ w', (Builtin.clear_ #[22] ty #[.slice (some ⟨g, i, none⟩) (n - i) (c - i)]).run Try.prog w = .ok (.tuple #[]) w' ∧ IRow w' B (.slice (some ⟨g, 0, none⟩) n c) (zs.take i ++ List.replicate (zs.length - i) 0) ∧ Fr (fun b => b = g) w w' := by
  obtain ⟨inf, hinf, hz0, hz1, hz2⟩ := info_parts u32_info
  obtain rfl := h.len
  rcases h.2 with ⟨e, _⟩ | ⟨g', c', cur, e, hB, hh, hnc, hcm, hcs, ht⟩
  · cases e
  · injection e with e1 _ e3
    injection e1 with e1
    injection e1 with e1
    subst e1 e3
    rw [Nat.mul_one] at hcs ht
    obtain ⟨m, hm⟩ : ∃ m, zs.length - i = m + 1 := ⟨zs.length - i - 1, by omega⟩
    rw [hm]
    have hst := run_storeCells_at Try.prog g i 32 (List.replicate (m + 1) (Value.int .u32 0)) 0 cur w hh (by simp; omega) (by intro v hv; rw [(List.mem_replicate.1 hv).2]; rfl)
    rw [List.length_replicate, Nat.add_zero, List.append_assoc] at hst
    have hzc : (Builtin.zeroCells (Value.int .u32 0).cells (m + 1)).toList = List.replicate (m + 1) (Value.int .u32 0) := by
      show (Builtin.zeroCells #[Value.int .u32 0] (m + 1)).toList = _
      unfold Builtin.zeroCells
      apply List.ext_getElem
      · simp
      · intro j h1 h2
        simp [Nat.mod_one]
    refine ⟨w.setRow g (cur.toList.take i ++ (List.replicate (m + 1) (Value.int .u32 0) ++ cur.toList.drop (i + (m + 1)))).toArray, ?_, ?_, setRow_fr' w g _⟩
    · simp [Builtin.clear_, run_underlying Try.underlying22, zeroValue, typeInfo, hinf, hz0]
      rw [hzc, hst]
      rfl
    · have hl : (zs.take i ++ List.replicate (m + 1) 0).length = zs.length := by simp; omega
      refine ⟨by rw [List.length_map, Nat.mul_one], Or.inr ⟨g, c, _, by rw [hl], hB, setRow_heap w g cur _ _ _ hh, by rw [hl]; exact hnc, hcm, ?_, ?_⟩⟩
      · simp; omega
      · rw [hl, Nat.mul_one]
        rw [← List.append_assoc, List.take_append_of_le_length (by simp; omega), List.take_of_length_le (by simp; omega), List.map_append, List.map_take, ← ht, List.take_take, Nat.min_eq_left (by omega), List.map_replicate]
end
set_option maxRecDepth 100000 in
set_option maxHeartbeats 2000000 in
theorem del32_ok (w : World) (B : Nat) (v : Value) (ps : List Int) (f : Int → Bool) (c0 c1 : Value) (hn : ps.length ≤ 1000000) (h : IRow w B v ps) (hB : B ≤ w.heap.size)
    (hf : ∀ (W : World) (p : Int), Fr (fun b => v.ownBlock = some b) w W → Calls Try.prog 35 #[.int .u32 p, c0, c1] W fun e w' => e = .returned (.bool (f p)) ∧ Ext W w') :
    Calls Try.prog 34 #[v, .func (.func 35) #[] #[c0, c1]] w fun e w' => ∃ v', e = .returned v' ∧ IRow w' B v' (leftI f ps) ∧ Fr (fun b => v.ownBlock = some b) w w' ∧ v'.ownBlock = v.ownBlock := by
  have HH := Lib.hid h
  have HF := Lib.hid hf
  obtain ⟨A, c, rfl, hnc, hcm, hP⟩ := h.form
  have HI := Lib.hid (idxCut32_ok w A ps.length c ps f c0 c1 rfl hn hP (fun W p x => hf W p (Fr.of_ext x)))
  clear h hf hP
  obtain ⟨n, hl⟩ : ∃ n, ps.length = n := ⟨_, rfl⟩
  rw [hl] at HI hn hnc HH HF ⊢
  have HL := Lib.hid hl
  clear hl
  by_cases hi : idxPI ps f = -1
  · rw [hi] at HI
    have HQ := Lib.hid (leftI_allI (idxPI_no f ps hi))
    clear hi
    go_enter Try.func34, Try.ntmps34
    go_wp2_with fail
    refine HI.out.mono ?_
    rintro e w1 ⟨rfl, x1⟩
    have R1 := Lib.hid (HH.out.ext x1)
    have X1 := Lib.hid x1
    clear x1
    go_wp2_with fail
    go_ret
    exact ⟨_, rfl, by rw [HQ.out]; exact R1.out, Fr.of_ext X1.out, rfl⟩
  · have hge := (idxPI_ge f ps).1
    obtain ⟨i, e, hil, hit, hin⟩ := idxPI_yes f ps (by omega)
    rw [e] at HI
    rw [HL.out] at hil
    have M0 := Lib.hid (MidI.start (f := f) (ps := ps) (i := i) (by rw [HL.out]; exact hil) hit hin)
    clear hi hge e hit hin
    obtain ⟨g, c', e', _, _, hBg, hgl⟩ := RowN.at_ (show RowN w B 32 1 .u32 (.slice A n c) n ps by have := RowN.of_row HH.out; rw [HL.out] at this; exact this) (by omega)
    injection e' with e1 _ e3
    subst e1 e3
    have hne : ¬ (i : Int) = -1 := by omega
    have hne2 : ((i : Int) == -1) = false := by simp
    go_enter Try.func34, Try.ntmps34
    go_wp2_with fail
    refine HI.out.mono ?_
    rintro e w1 ⟨rfl, x1⟩
    have R1 := Lib.hid (HH.out.ext x1)
    have F1 : Hid (Fr (fun b => b = g) w w1) := Lib.hid (Fr.of_ext x1)
    clear x1 HI
    go_wp2_with fail
    go_loopw [5, 6] (fun i j wr => ∃ (a b : Nat) (zs : List Int), i = .int .i64 a ∧ j = .int .i64 b ∧ MidI f ps zs a b ∧ IRow wr B (.slice (some ⟨g, 0, none⟩) n c) zs ∧ Fr (fun b => b = g) w wr) (fun _ j _ => n - (intOf j).toNat)
    case atStart => exact ⟨i, i + 1, ps, rfl, by go_num, M0.out, R1.out, F1.out⟩
    case round =>
      clear R1 F1 M0
      obtain ⟨a, b, zs, rfl, rfl, mid, rk, fk⟩ := hrel
      have MI := Lib.hid mid
      have RK := Lib.hid rk
      have FK := Lib.hid fk
      have hab := mid.ab
      have hbn : b ≤ n := by rw [← HL.out]; exact mid.bn
      have hzl : Hid (zs.length = n) := Lib.hid (mid.len.trans HL.out)
      have hgw : g < wr.heap.size := Nat.lt_of_lt_of_le hgl fk.size
      clear mid rk fk
      by_cases hlt : b < n
      · have v1 : decide (b < n) = true := by simp; omega
        obtain ⟨q0, -⟩ := RK.out.cells b (by rw [hzl.out]; exact hlt)
        rw [MI.out.dr b (Nat.le_refl _)] at q0
        obtain ⟨p0, z0, -⟩ := RK.out.cells a (by rw [hzl.out]; omega)
        obtain ⟨r, hr⟩ : ∃ r, f (ps.getD b 0) = r := ⟨_, rfl⟩
        have HR := Lib.hid hr
        have HFk : Hid (∀ W, Ext wr W → Calls Try.prog 35 #[.int .u32 (ps.getD b 0), c0, c1] W fun e w' => e = .returned (.bool r) ∧ Ext W w') := Lib.hid (fun W x => by
          have := HF.out W (ps.getD b 0) ((FK.out.then_ext x).mono (fun q _ hq => by rw [hq]; rfl))
          rw [hr] at this
          exact this)
        obtain ⟨z, hz⟩ : ∃ z, ps.getD b 0 = z := ⟨_, rfl⟩
        rw [hz] at q0 HFk
        have HZ := Lib.hid hz
        generalize zs.getD a 0 = y0 at p0
        clear hr hz
        go_wp2_with fail
        refine (HFk.out _ (Ext.refl wr)).mono ?_
        rintro e w2 ⟨rfl, x2⟩
        have R2 := Lib.hid (RK.out.ext x2)
        have F2 := Lib.hid (FK.out.then_ext x2)
        have p0' : w2.cell? ⟨g, a, none⟩ = some (.int .u32 y0) := (World.cell?_of_block (x2.block g hgw)).trans p0
        obtain ⟨-, z0', -⟩ := R2.out.cells a (by rw [hzl.out]; omega)
        clear x2 q0 p0 z0 HFk RK FK
        cases r
        · have hal : a < n := by omega
          have v2 : decide (a < n) = true := by simp; omega
          go_wp2_with fail
          go_roundw
          case rel =>
            refine ⟨a + 1, b + 1, zs.set a z, by go_num, by go_num, ?_, R2.out.set a z, ?_⟩
            · have := MI.out.move (by rw [HL.out]; exact hlt) HR.out
              rw [HZ.out] at this
              exact this
            · exact Fr.setCell (S := fun b => b = g) (p := ⟨g, a, none⟩) F2.out (Or.inl rfl) _
          case measure => simp [intOf]; omega
        · go_wp2_with fail
          go_roundw
          case rel => exact ⟨a, b + 1, zs, rfl, by go_num, MI.out.skip (by rw [HL.out]; exact hlt) HR.out, R2.out, F2.out⟩
          case measure => simp [intOf]; omega
      · have v1 : decide (b < n) = false := by simp; omega
        obtain rfl : n = b := by omega
        obtain ⟨w3, r3, p3, f3⟩ := clear_ints (w := wr) 0 RK.out a (by rw [hzl.out]; exact hab)
        have hcut := p3.cut a (by simp; rw [hzl.out]; omega)
        have hz2 : (zs.take a ++ List.replicate (zs.length - a) 0).take a = leftI f ps := by
          rw [List.take_append_of_le_length (by simp; rw [hzl.out]; omega), List.take_take, Nat.min_self]
          have m := MI.out
          rw [← HL.out] at m
          exact m.done
        rw [hz2] at hcut
        have P3 := Lib.hid hcut
        have F3 : Hid (Fr (fun b => b = g) w w3) := Lib.hid (FK.out.trans f3 (fun _ _ hs => hs))
        have hac : a ≤ c := by omega
        have v2 : decide (a ≤ n) = true := by simp; omega
        have v3 : decide (a ≤ c) = true := by simp; omega
        clear hcut hz2 p3 f3 RK FK MI
        go_wp2_with fail
        go_ret
        exact ⟨_, rfl, P3.out, F3.out.mono (fun q _ hq => by rw [hq]; rfl), rfl⟩
end Go.Proofs.Ythbngenjcgclgaa
