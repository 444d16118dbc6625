/- RetirePlaces' mathematics. Conditions: those that each theorem names. -/
import Derived.Test.YtndplpfbohigpaaGreatKRetD
namespace Go.Proofs.YtndplpfbohigpaaGreat
open Go.ChangeShapes Go.WideShapes Go.ChangeAt Go.RowKit
set_option linter.unusedVariables false
theorem logL_app {m : Nat} (V : Nat → Int) (a b : List (Fin m)) : logL V (a ++ b) = logL V a ++ logL V b := List.filterMap_append ..
theorem take_app {m : Nat} (V : Nat → Int) (k : Nat) (hk : k < m) : logL V (List.finRange m) = logL V ((List.finRange m).take k) ++ (if V k = 0 then [] else [toN (V k)]) ++ logL V ((List.finRange m).drop (k + 1)) := by
  have e : (List.finRange m) = (List.finRange m).take k ++ [⟨k, hk⟩] ++ (List.finRange m).drop (k + 1) := by
    rw [← finRange_take_more m k hk, List.take_append_drop]
  have e2 : logL V (List.finRange m) = logL V ((List.finRange m).take k ++ [⟨k, hk⟩] ++ (List.finRange m).drop (k + 1)) := by rw [← e]
  rw [e2, logL_app, logL_snoc]
theorem take_more {m : Nat} (V : Nat → Int) (k : Nat) (hk : k < m) : logL V ((List.finRange m).take (k + 1)) = logL V ((List.finRange m).take k) ++ (if V k = 0 then [] else [toN (V k)]) := by
  rw [finRange_take_more m k hk, logL_snoc]

theorem make_ints15 (n : Nat) (hc : n ≤ 1000000000) (W : World) :
    (Instr.makeSlice 69 (.int .i64 (n : Int)) (.int .i64 (n : Int))).run Tryz.prog W = .ok (.slice (some ⟨W.heap.size, 0, none⟩) n n) (W.alloc (.cells (madeCells #[.int .i64 0] n) 3)) := by
  obtain ⟨i, hi, hz0, hz1, hz2⟩ := info_parts int_info
  have h := run_makeInts (k := .u8) Tryz.underlying69 hi hz0 hz1 n n (Nat.le_refl _) (by rw [hz2]; omega) (by unfold maxLen; omega) W
  rw [Nat.mul_one] at h
  exact h
theorem made_ints15 (n : Nat) : madeCells #[.int .i64 0] n = (List.replicate n (Value.int .i64 0)).toArray := by
  apply Array.ext
  · simp [madeCells]
  · intro i h1 h2
    simp [madeCells, Nat.mod_one]
/-- All that holds behind so many acts. -/
structure PlaceAt (t s l b th k : Nat) (lg : List Int) (st : MSt) : Prop where
  pl : PlAt (layF t s l b) th l lg st
  ok : MOk (2 + t + s) (wN t s l b) st
  fi : Fine (30 + 13 * k) st.dev
  ca : CalmN (100 + 13 * (k : Int)) st
  rg : ∀ n : Nat, n < l → 0 ≤ lg.getD n 0 ∧ lg.getD n 0 ≤ 30
section
variable {t s l b th k : Nat} {lg : List Int} {st : MSt}
theorem rep_get (l n : Nat) : (List.replicate l (0 : Int)).getD n 0 = 0 := by
  rw [List.getD_eq_getElem?_getD, List.getElem?_replicate]
  split <;> rfl
theorem PlaceAt.zero : PlaceAt t s l b th 0 (List.replicate l 0) (groundSt t s l b []) := by
  refine ⟨⟨List.length_replicate, fun n hn => ?_⟩, MOk.start t s l b, (ground_fine t s l b []).le' (by omega), ?_, fun n hn => ?_⟩
  · rw [rep_get]
    exact start_peek t s l b _
  · exact ground_calm t s l b [] (by simp)
  · rw [rep_get]
    exact ⟨by omega, by omega⟩
theorem set_rg {lg : List Int} {l : Nat} (hl : lg.length = l) (h : ∀ n : Nat, n < l → 0 ≤ lg.getD n 0 ∧ lg.getD n 0 ≤ 30) (p : Nat) (hp : p < l) (x : Int) (hx : 0 ≤ x ∧ x ≤ 30) : ∀ n : Nat, n < l → 0 ≤ (lg.set p x).getD n 0 ∧ (lg.set p x).getD n 0 ≤ 30 := fun n hn => by
  rw [getD_set2 _ _ _ _ (by rw [hl]; exact hp)]
  split
  · exact hx
  · exact h n hn
theorem PlaceAt.cancel (hth : th < t) (h : PlaceAt t s l b th k lg st) (p : Nat) (hp : p < l) : PlaceAt t s l b th (k + 1) (lg.set p 0) (cnS (layF t s l b) th p false st) := by
  have e : cnS (layF t s l b) (th : Int) (p : Int) false st = st.store th (logN (layF t s l b) th p) 0 := rfl
  rw [e]
  refine ⟨h.pl.cancel hth h.ok p hp, h.ok.store _ _ _, (store_fine0 h.fi th _ 0).le' (by omega), CalmN.mono (CalmN.store h.ca th _ 0) (by omega), set_rg h.pl.1 h.rg p hp 0 ⟨by omega, by omega⟩⟩
theorem PlaceAt.reserve (hth : th < t) (h0 : 0 < l) (hl8 : l ≤ 8) (hN : wN t s l b ≤ 90) (h : PlaceAt t s l b th k lg st) (sl : Nat) (hs : sl < 30) :
    (∀ j : Nat, j ≤ 12 → (stepsR (rvS (layF t s l b) th sl) (⟨0, 0, false⟩, st) j).1.Wf (l : Int) ∧ Fine (30 + 13 * k + j) (stepsR (rvS (layF t s l b) th sl) (⟨0, 0, false⟩, st) j).2.dev ∧ CalmN (100 + 13 * (k : Int) + (j : Int)) (stepsR (rvS (layF t s l b) th sl) (⟨0, 0, false⟩, st) j).2) ∧
    (stepsR (rvS (layF t s l b) th sl) (⟨0, 0, false⟩, st) (l + 4)).1.dn = true ∧ (stepsR (rvS (layF t s l b) th sl) (⟨0, 0, false⟩, st) (l + 4)).1.tells (l : Int) = wantD lg l l ∧
    PlaceAt t s l b th (k + 1) (if 0 ≤ wantD lg l l then lg.set (wantD lg l l).toNat ((sl : Int) + 1) else lg) (stepsR (rvS (layF t s l b) th sl) (⟨0, 0, false⟩, st) (l + 4)).2 := by
  have hr := fun j => runF9 (F := layF t s l b) (L := l) rfl h0 (th : Int) (sl : Int) st h.fi h.ca h.ok hN j
  obtain ⟨r1, r2, r3⟩ := h.pl.reserve hth h0 h.ok (sl : Int) ⟨by omega, by omega⟩
  refine ⟨fun j _ => ⟨(hr j).1, (hr j).2.1, (hr j).2.2.1⟩, r1, r2, r3, (hr (l + 4)).2.2.2, ((hr (l + 4)).2.1).le' (by omega), CalmN.mono (hr (l + 4)).2.2.1 (by omega), ?_⟩
  rcases wantD_spec lg l l (Nat.le_refl l) with ⟨h1, _⟩ | ⟨p, h1, _, h3, _, _⟩
  · rw [h1, if_neg (by omega)]
    exact h.rg
  · rw [h1, if_pos (by omega), Int.toNat_natCast]
    exact set_rg h.pl.1 h.rg p h3 _ ⟨by omega, by omega⟩
/-- The log, read: the slots that the law keeps. -/
theorem PlaceAt.slots (hth : th < t) (h : PlaceAt t s l b th k lg st) : slotsL (layF t s l b) t l st th = logL (fun n => lg.getD n 0) (List.finRange l) := by
  unfold slotsL
  rw [if_pos ⟨by omega, by omega⟩]
  unfold logL
  congr 1
  funext x
  have e : VF (layF t s l b) th st x.val = lg.getD x.val 0 := h.pl.2 x.val x.isLt
  simp only
  rw [e]
theorem toN_pos (v : Int) (h0 : 0 < v) (h1 : v ≤ 30) : toN v = v - 1 := by
  unfold toN
  omega
theorem map_cell (lg : List Int) (p : Nat) (hp : p < lg.length) : (lg.map (Value.int .i64))[p]? = some (.int .i64 (lg.getD p 0)) := by
  rw [List.getElem?_map, List.getD_eq_getElem?_getD, List.getElem?_eq_getElem hp]
  rfl
theorem map_set (lg : List Int) (p : Nat) (x : Int) : (lg.map (Value.int .i64)).set p (.int .i64 x) = (lg.set p x).map (Value.int .i64) := (List.map_set ..).symm
end
end Go.Proofs.YtndplpfbohigpaaGreat
