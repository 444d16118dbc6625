/- Layer 8: numbers: find, slices.IndexFunc, slices.DeleteFunc, cut. Conditions: those that each theorem names. -/
import Derived.Test.YthbngenjcgclgaaMod14
namespace Go.Proofs.Ythbngenjcgclgaa
open Go.ChangeShapes Go.WideShapes Go.ChangeAt Go.RowKit
set_option linter.unusedVariables false
/-- Whether a number is there. -/
def hasI : List Int → Int → Bool
  | [], _ => false
  | p :: l, k => if p = k then true else hasI l k
theorem hasI_at : ∀ (l : List Int) (k : Int) (i : Nat), i < l.length → l.getD i 0 = k → hasI l k = true
  | [], _, _, h, _ => absurd h (by simp)
  | p :: l, k, 0, _, h => by
    have h' : p = k := h
    unfold hasI; rw [if_pos h']
  | p :: l, k, i + 1, h, he => by
    unfold hasI
    split
    · rfl
    · exact hasI_at l k i (by simpa using h) he
theorem hasI_none : ∀ (l : List Int) (k : Int), (∀ j, j < l.length → l.getD j 0 ≠ k) → hasI l k = false
  | [], _, _ => rfl
  | p :: l, k, hn => by
    have h0 : ¬ p = k := hn 0 (by simp)
    unfold hasI
    rw [if_neg h0]
    exact hasI_none l k (fun j hj => hn (j + 1) (by simpa using hj))
/-- What is found of a number. -/
def foundI (l : List Int) (k : Int) : Int := if hasI l k = true then k else 0
/-- Where the first pair of a kind is. -/
def idxPI : List Int → (Int → Bool) → Int
  | [], _ => -1
  | p :: l, f => if f p = true then 0 else (if idxPI l f = -1 then -1 else idxPI l f + 1)
theorem idxPI_ge (f : Int → Bool) : ∀ l : List Int, -1 ≤ idxPI l f ∧ idxPI l f < l.length
  | [] => by simp [idxPI]
  | p :: l => by
    have := idxPI_ge f l
    unfold idxPI
    simp only [List.length_cons]
    split
    · omega
    · split <;> omega
theorem idxPI_at (f : Int → Bool) : ∀ (l : List Int) (i : Nat), i < l.length → (∀ j, j < i → f (l.getD j 0) = false) → f (l.getD i 0) = true → idxPI l f = i
  | [], _, h, _, _ => absurd h (by simp)
  | p :: l, 0, _, _, h => by
    have h' : f p = true := h
    unfold idxPI; rw [if_pos h']; rfl
  | p :: l, i + 1, h, hn, he => by
    have h0 : f p = false := hn 0 (by omega)
    have := idxPI_at f l i (by simpa using h) (fun j hj => hn (j + 1) (by omega)) he
    unfold idxPI
    rw [h0, if_neg (by simp), this, if_neg (by omega)]
    omega
theorem idxPI_none (f : Int → Bool) : ∀ l : List Int, (∀ j, j < l.length → f (l.getD j 0) = false) → idxPI l f = -1
  | [], _ => rfl
  | p :: l, hn => by
    have h0 : f p = false := hn 0 (by simp)
    have := idxPI_none f l (fun j hj => hn (j + 1) (by simpa using hj))
    unfold idxPI
    rw [h0, if_neg (by simp), this, if_pos rfl]
theorem idxPI_yes (f : Int → Bool) : ∀ (l : List Int), 0 ≤ idxPI l f → ∃ i : Nat, idxPI l f = i ∧ i < l.length ∧ f (l.getD i 0) = true ∧ ∀ j, j < i → f (l.getD j 0) = false
  | [], h => absurd (show (0 : Int) ≤ -1 from h) (by decide)
  | p :: l, h => by
    by_cases hp : f p = true
    · exact ⟨0, by unfold idxPI; rw [if_pos hp]; rfl, by simp, hp, fun j hj => absurd hj (by omega)⟩
    · have hf : f p = false := by simpa using hp
      have h' := h
      unfold idxPI at h'
      rw [if_neg hp] at h'
      by_cases h1 : idxPI l f = -1
      · rw [if_pos h1] at h'; exact absurd h' (by decide)
      · have := (idxPI_ge f l).1
        obtain ⟨i, e, hi, ht, hn⟩ := idxPI_yes f l (by omega)
        refine ⟨i + 1, ?_, by simpa using hi, ht, fun j hj => ?_⟩
        · unfold idxPI
          rw [if_neg hp, if_neg h1, e]
          rfl
        · cases j with
          | zero => exact hf
          | succ j => exact hn j (by omega)
theorem idxPI_no (f : Int → Bool) : ∀ (l : List Int), idxPI l f = -1 → ∀ p ∈ l, f p = false
  | [], _, p, hp => absurd hp (by simp)
  | q :: l, h, p, hp => by
    by_cases hq : f q = true
    · unfold idxPI at h; rw [if_pos hq] at h; exact absurd h (by decide)
    · have hf : f q = false := by simpa using hq
      unfold idxPI at h
      rw [if_neg hq] at h
      by_cases h1 : idxPI l f = -1
      · rcases List.mem_cons.1 hp with e | e
        · rw [e]; exact hf
        · exact idxPI_no f l h1 p e
      · rw [if_neg h1] at h
        have := (idxPI_ge f l).1
        omega
/-- Those that stay. -/
def leftI (f : Int → Bool) (l : List Int) : List Int := l.filter (fun p => !f p)
theorem take_oneI (l : List Int) (b : Nat) (hb : b < l.length) : l.take (b + 1) = l.take b ++ [l.getD b 0] := by
  rw [List.take_succ_eq_append_getElem hb, List.getD_eq_getElem?_getD, List.getElem?_eq_getElem hb]
  rfl
theorem leftI_stepI (f : Int → Bool) (l : List Int) (b : Nat) (hb : b < l.length) : leftI f (l.take (b + 1)) = leftI f (l.take b) ++ (if f (l.getD b 0) = true then [] else [l.getD b 0]) := by
  unfold leftI
  rw [take_oneI l b hb, List.filter_append]
  congr 1
  by_cases h : f (l.getD b 0) = true
  · rw [if_pos h, List.filter_cons_of_neg (by rw [h]; decide)]; rfl
  · rw [if_neg h, List.filter_cons_of_pos (by simpa using h)]; rfl
theorem leftI_noneI (f : Int → Bool) (l : List Int) (h : ∀ j, j < l.length → f (l.getD j 0) = false) : leftI f l = l := by
  unfold leftI
  rw [List.filter_eq_self]
  intro p hp
  obtain ⟨j, hj, rfl⟩ := List.getElem_of_mem hp
  have := h j hj
  rw [List.getD_eq_getElem?_getD, List.getElem?_eq_getElem hj] at this
  simpa using this
theorem leftI_lenI (f : Int → Bool) (l : List Int) (b : Nat) : (leftI f (l.take b)).length ≤ b := by
  unfold leftI
  exact Nat.le_trans (List.length_filter_le _ _) (by simp; omega)
theorem leftI_allI {f : Int → Bool} {l : List Int} (h : ∀ p ∈ l, f p = false) : leftI f l = l := by
  unfold leftI
  rw [List.filter_eq_self]
  intro p hp
  simp [h p hp]
/-- What lies in a row while it is gone through. -/
structure MidI (f : Int → Bool) (ps zs : List Int) (a b : Nat) : Prop where
  len : zs.length = ps.length
  ab : a < b
  bn : b ≤ ps.length
  al : a = (leftI f (ps.take b)).length
  tk : zs.take a = leftI f (ps.take b)
  dr : ∀ j, b ≤ j → zs.getD j 0 = ps.getD j 0
theorem MidI.skip {f : Int → Bool} {ps zs : List Int} {a b : Nat} (h : MidI f ps zs a b) (hb : b < ps.length) (hf : f (ps.getD b 0) = true) : MidI f ps zs a (b + 1) := by
  have e : leftI f (ps.take (b + 1)) = leftI f (ps.take b) := by rw [leftI_stepI f ps b hb, if_pos hf, List.append_nil]
  exact ⟨h.len, by have := h.ab; omega, by omega, by rw [e]; exact h.al, by rw [e]; exact h.tk, fun j hj => h.dr j (by omega)⟩
theorem MidI.move {f : Int → Bool} {ps zs : List Int} {a b : Nat} (h : MidI f ps zs a b) (hb : b < ps.length) (hf : f (ps.getD b 0) = false) : MidI f ps (zs.set a (ps.getD b 0)) (a + 1) (b + 1) := by
  have e : leftI f (ps.take (b + 1)) = leftI f (ps.take b) ++ [ps.getD b 0] := by rw [leftI_stepI f ps b hb, if_neg (by rw [hf]; decide)]
  have hab := h.ab
  have hl := h.len
  refine ⟨by rw [List.length_set]; exact hl, by omega, by omega, by rw [e, List.length_append, ← h.al]; rfl, ?_, fun j hj => ?_⟩
  · rw [e, ← h.tk, take_oneI _ a (by rw [List.length_set]; omega)]
    congr 1
    · rw [List.take_set, List.set_eq_of_length_le (by simp; omega)]
    · rw [List.getD_eq_getElem?_getD, List.getElem?_set]
      simp [show a < zs.length by omega]
  · have := h.dr j (by omega)
    rw [List.getD_eq_getElem?_getD, List.getElem?_set, if_neg (by omega), ← List.getD_eq_getElem?_getD]
    exact this
theorem MidI.start {f : Int → Bool} {ps : List Int} {i : Nat} (hi : i < ps.length) (ht : f (ps.getD i 0) = true) (hn : ∀ j, j < i → f (ps.getD j 0) = false) : MidI f ps ps i (i + 1) := by
  have e0 : leftI f (ps.take i) = ps.take i := leftI_noneI f _ (fun j hj => by
    have hj' : j < i := by simp at hj; omega
    rw [List.getD_eq_getElem?_getD, List.getElem?_take, if_pos hj', ← List.getD_eq_getElem?_getD]
    exact hn j hj')
  have e : leftI f (ps.take (i + 1)) = ps.take i := by rw [leftI_stepI f ps i hi, if_pos ht, List.append_nil, e0]
  exact ⟨rfl, by omega, by omega, by rw [e]; simp; omega, by rw [e], fun _ _ => rfl⟩
theorem MidI.done {f : Int → Bool} {ps zs : List Int} {a : Nat} (h : MidI f ps zs a ps.length) : zs.take a = leftI f ps := by rw [h.tk, List.take_length]
theorem itself_q (k : Int) (w : World) : Calls Try.prog 14 #[.int .u32 k] w fun e w' => e = .returned (.int .u32 k) ∧ w' = w := (itself_ok k w).mono fun _ _ ⟨h1, h2⟩ => ⟨h1, h2.symm⟩
def PutI (k p : Int) : Bool := decide (k < p)
def CutI (k p : Int) : Bool := decide (p = k)
set_option maxRecDepth 100000 in
set_option maxHeartbeats 2000000 in
theorem find32_ok (w : World) (A : Option Addr) (n c : Nat) (zs : List Int) (key : Int) (hl : zs.length = n) (hn : n ≤ 1000000) (h : Ints w .u32 A zs) :
    Calls Try.prog 27 #[.slice A n c, .int .u32 key, .func (.func 14) #[] #[]] w fun e w' => e = .returned (.tuple #[.int .u32 (foundI zs key), .bool (hasI zs key)]) ∧ w = w' := by
  have HP := Lib.hid h
  have HL := Lib.hid hl
  clear h hl
  go_enter Try.func27, Try.ntmps27
  go_wp2_with fail
  go_loop [13] (fun i => ∃ k : Nat, k ≤ n ∧ i = .int .i64 k ∧ ∀ j, j < k → zs.getD j 0 ≠ key) (fun i => n - (intOf i).toNat)
  case atStart => exact ⟨0, Nat.zero_le _, rfl, fun j hj => absurd hj (by omega)⟩
  case round =>
    obtain ⟨k, hk, rfl, hne⟩ := hrel
    have NE := Lib.hid hne
    clear hne
    by_cases hlt : k < n
    · have v1 : decide (k < n) = true := by simp; omega
      have hll := HL.out
      obtain ⟨ad, hA, hbl, hc⟩ := HP.out (by omega)
      have q0 := hc k (by omega)
      generalize hz : zs.getD k 0 = z at *
      have HZ := Lib.hid hz
      clear hc hll hz
      subst hA
      go_wp2_with fail
      refine (itself_ok z _).mono ?_
      rintro e w2 ⟨rfl, rfl⟩
      by_cases he : z = key
      · subst he
        have hh := hasI_at zs z k (by rw [HL.out]; exact hlt) HZ.out
        have hf : foundI zs z = z := by unfold foundI; rw [if_pos hh]
        have HH := Lib.hid hh
        have HF := Lib.hid hf
        clear hh hf
        go_wp2_with fail
        rw [HH.out, HF.out]
        go_ret2
        exact ⟨rfl, rfl⟩
      · have he2 : (z == key) = false := by simp [he]
        have he3 : decide (z = key) = false := by simp [he]
        go_wp2_with fail
        go_round
        case rel =>
          refine ⟨k + 1, by omega, by go_num, fun j hj => ?_⟩
          by_cases hjk : j < k
          · exact NE.out j hjk
          · obtain rfl : j = k := by omega
            rw [HZ.out]
            exact he
        case measure => simp [intOf]; omega
    · have v1 : decide (k < n) = false := by simp; omega
      obtain rfl : k = n := by omega
      have hh := hasI_none zs key (by rw [HL.out]; exact NE.out)
      have hf : foundI zs key = 0 := by unfold foundI; rw [if_neg (by rw [hh]; decide)]
      have HH := Lib.hid hh
      have HF := Lib.hid hf
      clear hh hf
      go_wp2_with fail
      rw [HH.out, HF.out]
      go_ret2
      exact ⟨rfl, rfl⟩
set_option maxRecDepth 100000 in
set_option maxHeartbeats 1000000 in
theorem putF32_ok (w : World) (a : Int) (key : Int) (gf gk : Nat) (hf : w.cell? ⟨gf, 0, none⟩ = some (.func (.func 14) #[] #[])) (hk : w.cell? ⟨gk, 0, none⟩ = some (.int .u32 key)) :
    Calls Try.prog 32 #[.int .u32 a, .pointer (some ⟨gf, 0, none⟩), .pointer (some ⟨gk, 0, none⟩)] w fun e w' => e = .returned (.bool (PutI key a)) ∧ Ext w w' := by
  unfold PutI
  go_enter Try.func32, Try.ntmps32
  go_wp2_with fail
  go_quiet ((go_at_call 14; exact Calls.quiet_of_same (itself_q a _)))
  go_wp2_with fail
  go_ret
  exact ⟨rfl, by first | exact extN _ _ | exact (Ext.refl w).drew⟩
set_option maxRecDepth 100000 in
set_option maxHeartbeats 1000000 in
theorem cutF32_ok (w : World) (a : Int) (key : Int) (gf gk : Nat) (hf : w.cell? ⟨gf, 0, none⟩ = some (.func (.func 14) #[] #[])) (hk : w.cell? ⟨gk, 0, none⟩ = some (.int .u32 key)) :
    Calls Try.prog 35 #[.int .u32 a, .pointer (some ⟨gf, 0, none⟩), .pointer (some ⟨gk, 0, none⟩)] w fun e w' => e = .returned (.bool (CutI key a)) ∧ Ext w w' := by
  unfold CutI
  go_enter Try.func35, Try.ntmps35
  go_wp2_with fail
  go_quiet ((go_at_call 14; exact Calls.quiet_of_same (itself_q a _)))
  go_wp2_with fail
  go_ret
  exact ⟨rfl, by first | exact extN _ _ | exact (Ext.refl w).drew⟩
set_option maxRecDepth 100000 in
set_option maxHeartbeats 1000000 in
theorem idxPut32_ok (w : World) (A : Option Addr) (n c : Nat) (zs : List Int) (f : Int → Bool) (c0 c1 : Value) (hl : zs.length = n) (hn : n ≤ 1000000) (h : Ints w .u32 A zs)
    (hf : ∀ (W : World) (p : Int), Ext w W → Calls Try.prog 32 #[.int .u32 p, c0, c1] W fun e w' => e = .returned (.bool (f p)) ∧ Ext W w') :
    Calls Try.prog 31 #[.slice A n c, .func (.func 32) #[] #[c0, c1]] w fun e w' => e = .returned (.int .i64 (idxPI zs f)) ∧ Ext w w' := by
  have HP := Lib.hid h
  have HL := Lib.hid hl
  have HF := Lib.hid hf
  clear h hl hf
  go_enter Try.func31, Try.ntmps31
  go_wp2_with fail
  go_loopw [8] (fun i wr => ∃ k : Nat, k ≤ n ∧ i = .int .i64 k ∧ Ext w wr ∧ ∀ j, j < k → f (zs.getD j 0) = false) (fun i _ => n - (intOf i).toNat)
  case atStart => exact ⟨0, Nat.zero_le _, rfl, Ext.refl _, fun j hj => absurd hj (by omega)⟩
  case round =>
    obtain ⟨k, hk, rfl, xk, hne⟩ := hrel
    have XK := Lib.hid xk
    have NE := Lib.hid hne
    clear xk hne
    by_cases hlt : k < n
    · have v1 : decide (k < n) = true := by simp; omega
      have hll := HL.out
      obtain ⟨ad, hA, hbl, hc⟩ := (HP.out.ext XK.out) (by omega)
      have q0 := hc k (by omega)
      have HFk := Lib.hid (HF.out wr (zs.getD k 0) XK.out)
      obtain ⟨b, hb⟩ : ∃ b, f (zs.getD k 0) = b := ⟨_, rfl⟩
      rw [hb] at HFk
      have HBB := Lib.hid hb
      generalize hz : zs.getD k 0 = z at q0 HFk
      clear hc hll hz hb
      subst hA
      go_wp2_with fail
      refine HFk.out.mono ?_
      rintro e w2 ⟨rfl, x2⟩
      have X2 := Lib.hid (XK.out.trans x2)
      clear x2 HFk q0
      cases b
      · go_wp2_with fail
        go_roundw
        case rel =>
          refine ⟨k + 1, by omega, by go_num, X2.out, fun j hj => ?_⟩
          by_cases hjk : j < k
          · exact NE.out j hjk
          · obtain rfl : j = k := by omega
            exact HBB.out
        case measure => simp [intOf]; omega
      · go_wp2_with fail
        have e1 := idxPI_at f zs k (by rw [HL.out]; exact hlt) NE.out HBB.out
        rw [e1]
        go_ret
        exact ⟨rfl, X2.out⟩
    · have v1 : decide (k < n) = false := by simp; omega
      obtain rfl : k = n := by omega
      go_wp2_with fail
      have e1 := idxPI_none f zs (by rw [HL.out]; exact NE.out)
      rw [e1]
      go_ret
      exact ⟨rfl, XK.out⟩
set_option maxRecDepth 100000 in
set_option maxHeartbeats 1000000 in
theorem idxCut32_ok (w : World) (A : Option Addr) (n c : Nat) (zs : List Int) (f : Int → Bool) (c0 c1 : Value) (hl : zs.length = n) (hn : n ≤ 1000000) (h : Ints w .u32 A zs)
    (hf : ∀ (W : World) (p : Int), Ext w W → Calls Try.prog 35 #[.int .u32 p, c0, c1] W fun e w' => e = .returned (.bool (f p)) ∧ Ext W w') :
    Calls Try.prog 31 #[.slice A n c, .func (.func 35) #[] #[c0, c1]] w fun e w' => e = .returned (.int .i64 (idxPI zs f)) ∧ Ext w w' := by
  have HP := Lib.hid h
  have HL := Lib.hid hl
  have HF := Lib.hid hf
  clear h hl hf
  go_enter Try.func31, Try.ntmps31
  go_wp2_with fail
  go_loopw [8] (fun i wr => ∃ k : Nat, k ≤ n ∧ i = .int .i64 k ∧ Ext w wr ∧ ∀ j, j < k → f (zs.getD j 0) = false) (fun i _ => n - (intOf i).toNat)
  case atStart => exact ⟨0, Nat.zero_le _, rfl, Ext.refl _, fun j hj => absurd hj (by omega)⟩
  case round =>
    obtain ⟨k, hk, rfl, xk, hne⟩ := hrel
    have XK := Lib.hid xk
    have NE := Lib.hid hne
    clear xk hne
    by_cases hlt : k < n
    · have v1 : decide (k < n) = true := by simp; omega
      have hll := HL.out
      obtain ⟨ad, hA, hbl, hc⟩ := (HP.out.ext XK.out) (by omega)
      have q0 := hc k (by omega)
      have HFk := Lib.hid (HF.out wr (zs.getD k 0) XK.out)
      obtain ⟨b, hb⟩ : ∃ b, f (zs.getD k 0) = b := ⟨_, rfl⟩
      rw [hb] at HFk
      have HBB := Lib.hid hb
      generalize hz : zs.getD k 0 = z at q0 HFk
      clear hc hll hz hb
      subst hA
      go_wp2_with fail
      refine HFk.out.mono ?_
      rintro e w2 ⟨rfl, x2⟩
      have X2 := Lib.hid (XK.out.trans x2)
      clear x2 HFk q0
      cases b
      · go_wp2_with fail
        go_roundw
        case rel =>
          refine ⟨k + 1, by omega, by go_num, X2.out, fun j hj => ?_⟩
          by_cases hjk : j < k
          · exact NE.out j hjk
          · obtain rfl : j = k := by omega
            exact HBB.out
        case measure => simp [intOf]; omega
      · go_wp2_with fail
        have e1 := idxPI_at f zs k (by rw [HL.out]; exact hlt) NE.out HBB.out
        rw [e1]
        go_ret
        exact ⟨rfl, X2.out⟩
    · have v1 : decide (k < n) = false := by simp; omega
      obtain rfl : k = n := by omega
      go_wp2_with fail
      have e1 := idxPI_none f zs (by rw [HL.out]; exact NE.out)
      rw [e1]
      go_ret
      exact ⟨rfl, XK.out⟩
end Go.Proofs.Ythbngenjcgclgaa
