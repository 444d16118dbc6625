/- What the reference's functions of layer 2 answer: a number's bits, the divisor, what is left by dividing. Conditions: each argument lies in its type; a slice reads as the list that is named, of up to a million. -/
import Derived.Test.YtljleibhncidmaaSumFns
import Derived.Test.YtljleibhncidmaaSumDiv
import Derived.RegionTactic
namespace Go.Proofs.Ytljleibhncidmaa
open Go.ChangeShapes Go.WideShapes Go.ChangeAt Go.RowKit
set_option linter.unusedVariables false

theorem int_info : (Try.prog.info? 3).map (fun i => (i.zero, i.size, i.bytes)) = some (some (.int .i64 0), 1, 8) := by kernel_rfl

set_option maxHeartbeats 400000 in
theorem rbits_any (x n : Nat) (hx : x < 18446744073709551616) (hn : n ≤ 64) (w : World) :
    Calls Try.prog 65 #[.int .u64 (x : Int), .int .i64 (n : Int)] w fun e w' => ∃ v, e = .returned v ∧ Row w' w.heap.size 3 .i64 v (SM.bitsOf x n) ∧ Ext w w' := by
  go_enter Try.func65, Try.ntmps65
  go_wp2
  go_loopw [0, 5, 6] (fun q v i wr => ∃ k : Nat, k ≤ n ∧ i = .int .i64 k ∧ q = .int .u64 ((x / 2 ^ k : Nat) : Int) ∧ Row wr w.heap.size 3 .i64 v (SM.bitsOf x k) ∧ Ext w wr) (fun _ _ i _ => n - (intOf i).toNat)
  case atStart => exact ⟨0, Nat.zero_le _, rfl, by simp, Row.nil _ _ _ _, Ext.refl _⟩
  case round =>
    obtain ⟨k, hk, rfl, rfl, hrow, hext⟩ := hrel
    have hq : x / 2 ^ k < 18446744073709551616 := Nat.lt_of_le_of_lt (Nat.div_le_self _ _) hx
    have hl := SM.bitsOf_length x k
    have HL := Lib.hid hl
    clear hl
    generalize hd : x / 2 ^ k = y at *
    have HD := Lib.hid hd
    clear hd
    by_cases hlt : k < n
    · go_wp2_with ((at_builtin; refine Hid.out ?_))
      refine Lib.hid ?_
      refine wpList_push rfl _ _ 77 rfl 3 .i64 8 int_info (by omega) Try.underlying77 w wr _ (SM.bitsOf x k) ((y : Int) % 2) (by rfl) hrow hext (by rfl) (by rw [HL.out]; omega) ?_
      intro v' w' hrow' hext'
      go_wp2_with fail
      go_roundw
      case rel => exact ⟨k + 1, by omega, by go_num, by rw [← SM.half_pow, HD.out]; rfl, by unfold SM.bitsOf; rw [HD.out]; exact hrow', hext'⟩
      case measure => simp [intOf]; omega
    · go_wp2_with fail
      go_ret
      exact ⟨_, rfl, by rw [show n = k from by omega]; exact hrow, hext⟩

namespace SM
theorem bitsOf_take (x n k : Nat) (h : k < n) : (1 : Int) :: bitsOf x (k + 1) = ((1 : Int) :: bitsOf x k) ++ [((x / 2 ^ k % 2 : Nat) : Int)] := rfl
end SM

set_option maxHeartbeats 400000 in
theorem rdiv_any (w : World) :
    Calls Try.prog 71 #[] w fun e w' => ∃ v, e = .returned v ∧ Row w' w.heap.size 3 .i64 v (1 :: SM.bitsOf 2197175160 32) ∧ Ext w w' := by
  go_enter Try.func71, Try.ntmps71
  go_wp2_with fail
  refine (rbits_any 2197175160 32 (by omega) (by omega) _).mono ?_
  rintro e w1 ⟨v1, rfl, hrow1, hx1⟩
  obtain ⟨g, c, rfl, hg, hlt, hc⟩ := hrow1.at_ (SM.bitsOf_length _ _) (by omega)
  clear hrow1
  have hcells : ∀ j, j < 32 → w1.cell? ⟨g, j, none⟩ = some (.int .i64 ((2197175160 / 2 ^ j % 2 : Nat) : Int)) := fun j hj => by rw [hc j hj, SM.bitsOf_get _ _ _ hj]
  clear hc
  have HC := Lib.hid hcells
  clear hcells
  go_wp2_with fail
  go_loopw [2, 3] (fun v i wr => ∃ k : Nat, k ≤ 32 ∧ i = .int .i64 k ∧ Row wr w1.heap.size 3 .i64 v (1 :: SM.bitsOf 2197175160 k) ∧ Ext w1 wr) (fun _ i _ => 32 - (intOf i).toNat)
  case atStart => exact ⟨0, Nat.zero_le _, rfl, Row.one _ _ _ _, (Ext.refl _).alloc _⟩
  case round =>
    obtain ⟨k, hk, rfl, hrow, hext⟩ := hrel
    by_cases hlt2 : k < 32
    · have hcell : wr.cell? ⟨g, k, none⟩ = some (.int .i64 ((2197175160 / 2 ^ k % 2 : Nat) : Int)) := (Below.cell hext.below (by exact hlt)).trans (HC.out k hlt2)
      generalize hy : 2197175160 / 2 ^ k % 2 = y at hcell
      have HY := Lib.hid hy
      clear hy
      have HL := Lib.hid (SM.bitsOf_length 2197175160 k)
      go_wp2_with ((at_builtin; refine Hid.out ?_))
      refine Lib.hid ?_
      refine wpList_push rfl _ _ 77 rfl 3 .i64 8 int_info (by omega) Try.underlying77 w1 wr _ (1 :: SM.bitsOf 2197175160 k) (y : Int) (by rfl) hrow hext (by rfl) (by rw [List.length_cons, HL.out]; omega) ?_
      intro v' w' hrow' hext'
      go_wp2_with fail
      go_roundw
      case rel => exact ⟨k + 1, by omega, by go_num, by rw [SM.bitsOf_take _ 32 _ hlt2, HY.out]; exact hrow', hext'⟩
      case measure => simp [intOf]; omega
    · go_wp2_with fail
      go_ret
      exact ⟨_, rfl, by rw [show 32 = k from by omega]; exact hrow.mono hx1.size, hx1.trans hext⟩

/-- The cells of a block, each by its number, none of them frozen. -/
def Cells (w : World) (g n : Nat) (F : Nat → Nat) : Prop := ∀ j, j < n → w.cell? ⟨g, j, none⟩ = some (.int .i64 (F j : Nat)) ∧ w.frozen? ⟨g, j, none⟩ = false
theorem Cells.drew {w : World} {g n : Nat} {F : Nat → Nat} (h : Cells w g n F) : Cells w.drew g n F := h
theorem Cells.ext {w w' : World} {g n : Nat} {F : Nat → Nat} (h : Cells w g n F) (x : Ext w w') (hg : g < w.heap.size) : Cells w' g n F := fun j hj =>
  ⟨(Below.cell x.below (by exact hg)).trans (h j hj).1, (Below.frozen x.below (by exact hg)).trans (h j hj).2⟩
theorem Cells.set {w : World} {g n : Nat} {F : Nat → Nat} (h : Cells w g n F) (i z : Nat) (hi : i < n) : Cells (w.setCell ⟨g, i, none⟩ (.int .i64 (z : Nat))) g n (fun j => if j = i then z else F j) := fun j hj => by
  refine ⟨?_, by rw [World.frozen?_setCell]; exact (h j hj).2⟩
  by_cases e : j = i
  · subst e
    show _ = some (Value.int .i64 ((if j = j then z else F j : Nat) : Int))
    rw [if_pos rfl]
    exact World.cell?_setCell_same _ _ _ (h j hj).1
  · show _ = some (Value.int .i64 ((if j = i then z else F j : Nat) : Int))
    rw [if_neg e, World.cell?_setCell_other _ _ _ _ (by intro e2; injection e2 with _ e3; exact e e3.symm)]
    exact (h j hj).1
theorem Cells.far {w : World} {g g' n i : Nat} {F : Nat → Nat} {u : Value} (h : Cells w g n F) (hne : g' ≠ g) : Cells (w.setCell ⟨g', i, none⟩ u) g n F := fun j hj =>
  ⟨by rw [World.cell?_setCell_other _ _ _ _ (by intro e2; injection e2 with e3; exact hne e3)]; exact (h j hj).1, by rw [World.frozen?_setCell]; exact (h j hj).2⟩
theorem Cells.same {w : World} {g n : Nat} {F G : Nat → Nat} (h : Cells w g n F) (e : ∀ j, j < n → F j = G j) : Cells w g n G := fun j hj => by rw [← e j hj]; exact h j hj
theorem Row.cells {w : World} {B g n c : Nat} {zs : List Int} {F : Nat → Nat} (h : Row w B 3 .i64 (.slice (some ⟨g, 0, none⟩) n c) zs) (hn : zs.length = n) (e : ∀ j, j < n → zs.getD j 0 = (F j : Nat)) : Cells w g n F := fun j hj => by
  have h' : w.ownsRow B 3 1 (.slice (some ⟨g, 0, none⟩) n c) n (zs.map (Value.int .i64)) := by rw [← hn]; rw [← hn] at h; exact h
  refine ⟨?_, h'.frozenAt j⟩
  rw [h'.cellAt j (by omega), ← e j hj]
  simp [List.getD_eq_getElem?_getD, show j < zs.length from by omega]

theorem SM.pad_get (l : List Int) (hl : Lim l 2) (m : Nat) (j : Nat) : (l ++ List.replicate m 0).getD j 0 = (((l.getD j 0).toNat : Nat) : Int) := by
  by_cases h : j < l.length
  · have := hl j h
    rw [Int.toNat_of_nonneg this.1]
    simp [List.getD_eq_getElem?_getD, List.getElem?_append_left h]
  · have e : l.getD j 0 = 0 := by simp [List.getD_eq_getElem?_getD, show l.length ≤ j from by omega]
    rw [e]
    simp [List.getD_eq_getElem?_getD, List.getElem?_append_right (show l.length ≤ j from by omega), List.getElem?_replicate]
    split <;> rfl

theorem SM.xorF_zero (l : List Int) (s : Nat) (hl : Lim l 2) (j : Nat) (_ : j < l.length + 32) : (l.getD j 0).toNat = SM.xorF s l 0 j := by
  unfold SM.xorF
  by_cases h : j < l.length
  · have := hl j h
    rw [if_neg (by omega)]; omega
  · have e : l.getD j 0 = 0 := by simp [List.getD_eq_getElem?_getD, show l.length ≤ j from by omega]
    rw [e]; simp

set_option maxRecDepth 100000 in
set_option maxHeartbeats 1000000 in
theorem rest_any (s : Nat) (A : Option Addr) (c : Nat) (l : List Int) (w : World) (hs : s < 4294967296) (hlen : l.length ≤ 1000000) (hl : Lim l 2) (hA : Ints w .i64 A l) :
    Calls Try.prog 66 #[.int .u32 (s : Int), .slice A l.length c] w fun e w' => e = .returned (.int .u32 (SM.stAt s l l.length : Nat)) ∧ Ext w w' := by
  go_enter Try.func66, Try.ntmps66
  go_wp2
  go_loopw [5, 6] (fun v i wr => ∃ k : Nat, k ≤ l.length ∧ i = .int .i64 k ∧ Row wr w.heap.size 3 .i64 v (l.take k) ∧ Ext w wr) (fun _ i _ => l.length - (intOf i).toNat)
  case atStart => exact ⟨0, Nat.zero_le _, rfl, Row.nil _ _ _ _, Ext.refl _⟩
  case round =>
    obtain ⟨k, hk, rfl, hrow, hext⟩ := hrel
    by_cases hlt : k < l.length
    · obtain ⟨ad, rfl, hb, hc⟩ := (hA.ext hext) (by omega)
      have hcell := hc k hlt
      clear hc
      have HT := Lib.hid (List.take_succ_eq_append_getElem (l := l) (i := k) hlt)
      have hgd : l.getD k 0 = l[k] := by simp [List.getD_eq_getElem?_getD, hlt]
      rw [hgd] at hcell
      clear hgd
      go_wp2_with ((at_builtin; refine Hid.out ?_))
      refine Lib.hid ?_
      refine wpList_push rfl _ _ 77 rfl 3 .i64 8 int_info (by omega) Try.underlying77 w wr _ (l.take k) l[k] (by rfl) hrow hext (by rfl) (by rw [List.length_take]; omega) ?_
      intro v' w' hrow' hext'
      go_wp2_with fail
      go_roundw
      case rel => exact ⟨k + 1, by omega, by go_num, by rw [HT.out]; exact hrow', hext'⟩
      case measure => simp [intOf]; omega
    · have e : l.take k = l := List.take_of_length_le (by omega)
      rw [e] at hrow
      clear e
      generalize wr = w1 at *
      go_wp2_with fail
      go_loopw [5, 7] (fun v i wr => ∃ k : Nat, k ≤ 32 ∧ i = .int .i64 k ∧ Row wr w.heap.size 3 .i64 v (l ++ List.replicate k 0) ∧ Ext w wr) (fun _ i _ => 32 - (intOf i).toNat)
      case atStart => exact ⟨0, Nat.zero_le _, rfl, by simpa using hrow, hext⟩
      case round =>
        clear hrow hext
        obtain ⟨k2, hk2, rfl, hrow, hext⟩ := hrel
        by_cases hlt2 : k2 < 32
        · go_wp2_with ((at_builtin; refine Hid.out ?_))
          refine Lib.hid ?_
          refine wpList_push rfl _ _ 77 rfl 3 .i64 8 int_info (by omega) Try.underlying77 w wr _ (l ++ List.replicate k2 0) 0 (by rfl) hrow hext (by rfl) (by rw [List.length_append, List.length_replicate]; omega) ?_
          intro v' w' hrow' hext'
          go_wp2_with fail
          go_roundw
          case rel => exact ⟨k2 + 1, by omega, by go_num, by rw [List.replicate_succ', ← List.append_assoc]; exact hrow', hext'⟩
          case measure => simp [intOf]; omega
        · have e : k2 = 32 := by omega
          rw [e] at hrow
          clear e
          obtain ⟨ga, ca, rfl, hga, hgl, _⟩ := hrow.at_ (n := l.length + 32) (by rw [List.length_append, List.length_replicate]) (by omega)
          have hcs := hrow.cells (F := fun j => (l.getD j 0).toNat) (by rw [List.length_append, List.length_replicate]) (fun j _ => SM.pad_get l hl 32 j)
          clear hrow
          generalize wr = w2 at *
          go_wp2_with fail
          refine (rbits_any s 32 (by omega) (by omega) _).mono ?_
          rintro e w3 ⟨v3, rfl, hrow3, hx3⟩
          obtain ⟨gs, c3, rfl, hgs, hgsl, _⟩ := hrow3.at_ (SM.bitsOf_length _ _) (by omega)
          have hcb := hrow3.cells (F := SM.Bt s) (SM.bitsOf_length _ _) (fun j hj => SM.bitsOf_get _ _ _ hj)
          clear hrow3
          have hca := hcs.ext hx3 hgl
          have hext3 := hext.trans hx3
          have hne : ga ≠ gs := by omega
          have hgl3 : ga < w3.heap.size := by omega
          clear hcs hext hx3 hgs
          go_wp2_with fail
          go_loopw [9] (fun i wr => ∃ k : Nat, k ≤ 32 ∧ i = .int .i64 k ∧ Cells wr ga (l.length + 32) (SM.xorF s l k) ∧ Cells wr gs 32 (SM.Bt s) ∧ Ext w wr ∧ ga < wr.heap.size) (fun i _ => 32 - (intOf i).toNat)
          case atStart => exact ⟨0, Nat.zero_le _, rfl, hca.same (SM.xorF_zero l s hl), hcb, hext3, hgl3⟩
          case round =>
            clear hca hcb hext3 hgl3 hgsl hgl
            obtain ⟨k3, hk3, rfl, hca, hcb, hext, hgl⟩ := hrel
            by_cases hlt3 : k3 < 32
            · have hca1 := (hca k3 (by omega)).1
              have hcf1 := (hca k3 (by omega)).2
              have hcb1 := (hcb k3 (by omega)).1
              have HS := Lib.hid (fun j => SM.xorF_succ s l k3 j)
              have ha := SM.xorF_lt s l k3 k3
              have hb := SM.Bt_lt s k3
              generalize SM.xorF s l k3 k3 = a at hca1 ha HS
              generalize SM.Bt s k3 = b at hcb1 hb HS
              go_wp2_with fail
              go_region
              go_wp2_with fail
              go_roundw
              case rel =>
                rw [show ((a : Int) + b) % 2 = (((a + b) % 2 : Nat) : Int) from by omega]
                exact ⟨k3 + 1, by omega, by go_num, ((hca.set k3 ((a + b) % 2) (by omega)).same (fun j _ => HS.out j)).drew, (hcb.far hne).drew, (hext.setCell hga _).drew, by simpa using hgl⟩
              case measure => simp [intOf]; omega
            · have e : k3 = 32 := by omega
              rw [e] at hca
              clear e hcb
              generalize wr = w4 at *
              go_wp2_with fail
              refine (rdiv_any _).mono ?_
              rintro e w5 ⟨v5, rfl, hrow5, hx5⟩
              obtain ⟨gd, c5, rfl, hgd, hgdl, _⟩ := hrow5.at_ (n := 33) (by rw [List.length_cons, SM.bitsOf_length]) (by omega)
              have hcd := hrow5.cells (F := SM.dv) (by rw [List.length_cons, SM.bitsOf_length]) (fun j hj => SM.dv_get j hj)
              have hca5 := (hca.ext hx5 hgl).same (fun j _ => SM.divG_zero s l j)
              have hext5 := hext.trans hx5
              have hne2 : ga ≠ gd := by omega
              have hgl5 : ga < w5.heap.size := by omega
              clear hrow5 hca hext hgl hx5 hgd hgdl
              go_wp2_with fail
              go_loopw [11] (fun i wr => ∃ k : Nat, k ≤ l.length ∧ i = .int .i64 k ∧ Cells wr ga (l.length + 32) (SM.divG s l k) ∧ Cells wr gd 33 SM.dv ∧ Ext w wr ∧ ga < wr.heap.size) (fun i _ => l.length - (intOf i).toNat)
              case atStart => exact ⟨0, Nat.zero_le _, rfl, hca5, hcd, hext5, hgl5⟩
              case round =>
                clear hca5 hcd hext5 hgl5
                obtain ⟨i, hi, rfl, hca, hcd, hext, hgl⟩ := hrel
                by_cases hlti : i < l.length
                · have hb := SM.divG_lt s l i i
                  rcases (show SM.divG s l i i = 0 ∨ SM.divG s l i i = 1 from by omega) with h0 | h1
                  · have hca1 := (hca i (by omega)).1
                    rw [h0] at hca1
                    have H0 := Lib.hid h0
                    clear h0 hb
                    generalize wr = w6 at *
                    go_wp2_with fail
                    go_loopw [12] (fun k wr => k = .int .i64 0 ∧ wr = w6) (fun _ _ => 0)
                    case atStart => exact ⟨rfl, rfl⟩
                    case round =>
                      obtain ⟨rfl, rfl⟩ := hrel
                      go_wp2_with fail
                      go_roundw
                      case rel => exact ⟨i + 1, by omega, by go_num, hca.same (fun j _ => SM.keepF_end s l i j hs H0.out), hcd, hext, hgl⟩
                      case measure => simp [intOf]; omega
                  · have H1 := Lib.hid h1
                    clear h1 hb
                    generalize wr = w6 at *
                    go_wp2_with fail
                    go_loopw [12] (fun k wr => ∃ m : Nat, m ≤ 33 ∧ k = .int .i64 m ∧ Cells wr ga (l.length + 32) (SM.subF (SM.divG s l i) i m) ∧ Cells wr gd 33 SM.dv ∧ Ext w wr ∧ ga < wr.heap.size) (fun k _ => 33 - (intOf k).toNat)
                    case atStart => exact ⟨0, by omega, rfl, hca.same (fun j _ => (SM.subF_zero _ _ _).symm), hcd, hext, hgl⟩
                    case round =>
                      clear hca hcd hext hgl
                      obtain ⟨m, hm, rfl, hca, hcd, hext, hgl⟩ := hrel
                      by_cases hltm : m < 33
                      · obtain ⟨q, hq⟩ : ∃ q : Nat, q + m = 32 := ⟨32 - m, by omega⟩
                        have hcai := (hca i (by omega)).1
                        rw [SM.subF_at s l i m (by omega), H1.out] at hcai
                        have hca1 := (hca (i + q) (by omega)).1
                        have hcf1 := (hca (i + q) (by omega)).2
                        have hcd1 := (hcd q (by omega)).1
                        have HS := Lib.hid (fun j => SM.subF_succ (SM.divG s l i) i m j (by omega))
                        rw [show i + 32 - m = i + q from by omega, show 32 - m = q from by omega] at HS
                        have ha := SM.subF_lt s l i m (i + q)
                        have hb := SM.dv_lt q
                        generalize SM.subF (SM.divG s l i) i m (i + q) = a at hca1 ha HS
                        generalize SM.dv q = b at hcd1 hb HS
                        have hE1 : (i : Int) + 32 - (m : Int) = ((i + q : Nat) : Int) := by omega
                        have hE2 : (32 : Int) - (m : Int) = (q : Int) := by omega
                        go_wp2_with fail
                        go_region
                        go_wp2_with fail
                        go_roundw
                        case rel =>
                          rw [show ((a : Int) + b) % 2 = (((a + b) % 2 : Nat) : Int) from by omega]
                          exact ⟨m + 1, by omega, by go_num, ((hca.set (i + q) ((a + b) % 2) (by omega)).same (fun j _ => HS.out j)).drew, (hcd.far hne2).drew, (hext.setCell hga _).drew, by simpa using hgl⟩
                        case measure => simp [intOf]; omega
                      · have e : m = 33 := by omega
                        rw [e] at hca
                        have hcai := (hca i (by omega)).1
                        rw [SM.subF_last s l i H1.out] at hcai
                        clear e
                        go_wp2_with fail
                        go_roundw
                        case rel => exact ⟨i + 1, by omega, by go_num, hca.same (fun j _ => SM.subF_end s l i j hs H1.out), hcd, hext, hgl⟩
                        case measure => simp [intOf]; omega
                · have e : i = l.length := by omega
                  rw [e] at hca
                  clear e hcd
                  generalize wr = w7 at *
                  have hX := SM.stAt_lt s l l.length hs
                  have hbits : ∀ p, p < 32 → w7.cell? ⟨ga, l.length + p, none⟩ = some (.int .i64 (SM.Bt (SM.stAt s l l.length) p : Nat)) := fun p hp => by rw [← SM.divG_end s l p hp]; exact (hca (l.length + p) (by omega)).1
                  clear hca
                  obtain ⟨X, hXe⟩ : ∃ X, X = SM.stAt s l l.length := ⟨_, rfl⟩
                  rw [← hXe] at hX hbits
                  have HX := Lib.hid hXe
                  clear hXe
                  have HB := Lib.hid hbits
                  clear hbits
                  go_wp2_with fail
                  go_loop [13, 14] (fun o k => ∃ m : Nat, m ≤ 32 ∧ k = .int .i64 ((m : Int) - 1) ∧ o = .int .i64 ((X / 2 ^ m : Nat) : Int)) (fun _ k => (intOf k + 1).toNat)
                  case atStart => exact ⟨32, by omega, rfl, by rw [Nat.div_eq_of_lt (by omega)]; rfl⟩
                  case round =>
                    obtain ⟨m, hm, rfl, rfl⟩ := hrel
                    cases m with
                    | zero =>
                      rw [Nat.pow_zero, Nat.div_one]
                      go_wp2_with fail
                      go_ret
                      exact ⟨reti (by rw [HX.out]), hext⟩
                    | succ p =>
                      have hcell := HB.out p (by omega)
                      have HH := Lib.hid (SM.horner X p)
                      have hy : X / 2 ^ (p + 1) < 4294967296 := Nat.lt_of_le_of_lt (Nat.div_le_self _ _) hX
                      have hb := SM.Bt_lt X p
                      generalize X / 2 ^ (p + 1) = y at hy HH ⊢
                      generalize SM.Bt X p = b at hcell hb HH
                      rw [show ((p + 1 : Nat) : Int) - 1 = (p : Int) from by omega]
                      go_wp2_with fail
                      go_round
                      case rel => exact ⟨p, by omega, rfl, by rw [← HH.out]; rfl⟩
                      case measure => simp [intOf]

theorem Cells.of_block {w w' : World} {g n : Nat} {F : Nat → Nat} (h : Cells w g n F) (e : w'.heap[g]? = w.heap[g]?) : Cells w' g n F := fun j hj =>
  ⟨(World.cell?_of_block (a := ⟨g, j, none⟩) e).trans (h j hj).1, (World.frozen?_of_block (a := ⟨g, j, none⟩) e).trans (h j hj).2⟩
theorem SM.bits_lim (x n : Nat) : Lim (SM.bitsOf x n) 2 := fun j hj => by
  rw [SM.bitsOf_length] at hj
  rw [SM.bitsOf_get _ _ _ hj]
  omega

end Go.Proofs.Ytljleibhncidmaa
