/- Layer 8: rows of pairs; slices.IndexFunc of pairs; what put and cut ask. Conditions: those that each theorem names. -/
import Derived.Test.YthbngenjcgclgaaMod1
import Derived.Deep.RegionHeld3
import Derived.BigQuiet
import Derived.Deep.QuietTactic
namespace Go.Proofs.Ythbngenjcgclgaa
open Go.ChangeShapes Go.WideShapes Go.ChangeAt Go.RowKit
set_option linter.unusedVariables false
/-- Pairs, cell by cell. -/
def flat : List Pr → List Int
  | [] => []
  | p :: l => p.1 :: p.2 :: flat l
theorem flat_len : ∀ l : List Pr, (flat l).length = l.length * 2
  | [] => rfl
  | p :: l => by simp [flat, flat_len l]; omega
theorem flat_append : ∀ l m : List Pr, flat (l ++ m) = flat l ++ flat m
  | [], _ => rfl
  | p :: l, m => by simp [flat, flat_append l m]
theorem flat_get : ∀ (l : List Pr) (i : Nat), (flat l).getD (i * 2) 0 = (l.getD i (0, 0)).1 ∧ (flat l).getD (i * 2 + 1) 0 = (l.getD i (0, 0)).2
  | [], i => by simp [flat]
  | p :: l, 0 => by simp [flat]
  | p :: l, i + 1 => by
    have h := flat_get l i
    rw [show (i + 1) * 2 = i * 2 + 1 + 1 by omega]
    simpa [flat] using h
/-- A row of pairs of the call's own. -/
def PRow (w : World) (B : Nat) (v : Value) (ps : List Pr) : Prop := RowN w B 46 2 .u32 v ps.length (flat ps)
theorem PRow.nil (w : World) (B : Nat) : PRow w B (.slice none 0 0) [] := RowN.nil _ _ _ _ _
theorem PRow.form {w : World} {B : Nat} {v : Value} {ps : List Pr} (h : PRow w B v ps) : ∃ A c, v = .slice A ps.length c ∧ ps.length ≤ c ∧ c ≤ maxLen ∧ PAt w A ps := by
  obtain ⟨A, c, e, h1, h2, hI, hg, _⟩ := RowN.form h (by decide)
  refine ⟨A, c, e, h1, h2, fun h0 => ?_⟩
  obtain ⟨g, rfl, hB, hgl⟩ := hg h0
  refine ⟨_, rfl, hgl, fun i hi => ?_⟩
  obtain ⟨ad, ea, _, hc⟩ := hI (by rw [flat_len]; omega)
  injection ea with ea
  subst ea
  have c0 := hc (i * 2) (by rw [flat_len]; omega)
  have c1 := hc (i * 2 + 1) (by rw [flat_len]; omega)
  rw [(flat_get ps i).1] at c0
  rw [(flat_get ps i).2] at c1
  refine ⟨c0, ?_⟩
  rw [at0] at c1 ⊢
  exact c1
/-- Where the first pair of a kind is. -/
def idxP : List Pr → (Pr → Bool) → Int
  | [], _ => -1
  | p :: l, f => if f p = true then 0 else (if idxP l f = -1 then -1 else idxP l f + 1)
theorem idxP_ge (f : Pr → Bool) : ∀ l : List Pr, -1 ≤ idxP l f ∧ idxP l f < l.length
  | [] => by simp [idxP]
  | p :: l => by
    have := idxP_ge f l
    unfold idxP
    simp only [List.length_cons]
    split
    · omega
    · split <;> omega
theorem idxP_at (f : Pr → Bool) : ∀ (l : List Pr) (i : Nat), i < l.length → (∀ j, j < i → f (l.getD j (0, 0)) = false) → f (l.getD i (0, 0)) = true → idxP l f = i
  | [], _, h, _, _ => absurd h (by simp)
  | p :: l, 0, _, _, h => by
    have h' : f p = true := h
    unfold idxP; rw [if_pos h']; rfl
  | p :: l, i + 1, h, hn, he => by
    have h0 : f p = false := hn 0 (by omega)
    have := idxP_at f l i (by simpa using h) (fun j hj => hn (j + 1) (by omega)) he
    unfold idxP
    rw [h0, if_neg (by simp), this, if_neg (by omega)]
    omega
theorem idxP_none (f : Pr → Bool) : ∀ l : List Pr, (∀ j, j < l.length → f (l.getD j (0, 0)) = false) → idxP l f = -1
  | [], _ => rfl
  | p :: l, hn => by
    have h0 : f p = false := hn 0 (by simp)
    have := idxP_none f l (fun j hj => hn (j + 1) (by simpa using hj))
    unfold idxP
    rw [h0, if_neg (by simp), this, if_pos rfl]
def PutP (k : Int) (p : Pr) : Bool := decide (k < p.1)
def CutP (k : Int) (p : Pr) : Bool := decide (p.1 = k)
set_option maxRecDepth 100000 in
set_option maxHeartbeats 1000000 in
theorem putF_ok (w : World) (a b : Int) (key : Int) (gf gk : Nat) (hf : w.cell? ⟨gf, 0, none⟩ = some (.func (.func 16) #[] #[])) (hk : w.cell? ⟨gk, 0, none⟩ = some (.int .u32 key)) (lf : gf < w.heap.size) (lk : gk < w.heap.size) :
    Calls Try.prog 37 #[.agg #[.int .u32 a, .int .u32 b], .pointer (some ⟨gf, 0, none⟩), .pointer (some ⟨gk, 0, none⟩)] w fun e w' => e = .returned (.bool (PutP key (a, b))) ∧ Ext w w' := by
  have nf : ¬ gf = w.heap.size := by omega
  have nk : ¬ gk = w.heap.size := by omega
  unfold PutP
  have xt : Ext (w.alloc (.cells #[.int .u32 a, .int .u32 b] 46)) (w.alloc (.cells #[.int .u32 a, .int .u32 b] 46)).drew := (Ext.refl _).drew
  have HC : Hid (∀ W, Ext (w.alloc (.cells #[.int .u32 a, .int .u32 b] 46)) W → W.cell? ⟨gf, 0, none⟩ = some (.func (.func 16) #[] #[]) ∧ W.cell? ⟨gk, 0, none⟩ = some (.int .u32 key) ∧ W.cell? ⟨w.heap.size, 0, none⟩ = some (.int .u32 a) ∧ W.cell? ⟨w.heap.size, 1, none⟩ = some (.int .u32 b)) := Lib.hid (fun W x => by
    have x' := ((Ext.refl w).alloc _).trans x
    have hb := (Blk.new w 46 [.int .u32 a, .int .u32 b]).ext x
    exact ⟨(World.cell?_of_block (x'.block gf lf)).trans hf, (World.cell?_of_block (x'.block gk lk)).trans hk, hb.cell 0, hb.cell 1⟩)
  have HK : Hid (∀ W, Calls Try.prog 16 #[.agg #[.int .u32 a, .int .u32 b]] W fun e w' => e = .returned (.int .u32 a) ∧ Ext W w') := Lib.hid (fun W => keyOf_ok a b W)
  simp only
  go_enter Try.func37, Try.ntmps37
  go_wp2_with fail
  go_region_held3 (fun W => W.cell? ⟨gf, 0, none⟩ = some (.func (.func 16) #[] #[]) ∧ W.cell? ⟨gk, 0, none⟩ = some (.int .u32 key) ∧ W.cell? ⟨w.heap.size, 0, none⟩ = some (.int .u32 a) ∧ W.cell? ⟨w.heap.size, 1, none⟩ = some (.int .u32 b)) (first | exact HC.out _ xt | go_keep) (first
    | (go_at_call 16; refine (HK.out _).mono ?_; rintro e w1 ⟨rfl, x1⟩; replace xt := xt.trans x1; clear x1))
  all_goals
    go_wp2_with fail
    go_ret
    exact ⟨rfl, ((Ext.refl w).alloc _).trans xt⟩
set_option maxRecDepth 100000 in
set_option maxHeartbeats 1000000 in
theorem cutF_ok (w : World) (a b : Int) (key : Int) (gf gk : Nat) (hf : w.cell? ⟨gf, 0, none⟩ = some (.func (.func 16) #[] #[])) (hk : w.cell? ⟨gk, 0, none⟩ = some (.int .u32 key)) (lf : gf < w.heap.size) (lk : gk < w.heap.size) :
    Calls Try.prog 40 #[.agg #[.int .u32 a, .int .u32 b], .pointer (some ⟨gf, 0, none⟩), .pointer (some ⟨gk, 0, none⟩)] w fun e w' => e = .returned (.bool (CutP key (a, b))) ∧ Ext w w' := by
  have nf : ¬ gf = w.heap.size := by omega
  have nk : ¬ gk = w.heap.size := by omega
  unfold CutP
  have xt : Ext (w.alloc (.cells #[.int .u32 a, .int .u32 b] 46)) (w.alloc (.cells #[.int .u32 a, .int .u32 b] 46)).drew := (Ext.refl _).drew
  have HC : Hid (∀ W, Ext (w.alloc (.cells #[.int .u32 a, .int .u32 b] 46)) W → W.cell? ⟨gf, 0, none⟩ = some (.func (.func 16) #[] #[]) ∧ W.cell? ⟨gk, 0, none⟩ = some (.int .u32 key) ∧ W.cell? ⟨w.heap.size, 0, none⟩ = some (.int .u32 a) ∧ W.cell? ⟨w.heap.size, 1, none⟩ = some (.int .u32 b)) := Lib.hid (fun W x => by
    have x' := ((Ext.refl w).alloc _).trans x
    have hb := (Blk.new w 46 [.int .u32 a, .int .u32 b]).ext x
    exact ⟨(World.cell?_of_block (x'.block gf lf)).trans hf, (World.cell?_of_block (x'.block gk lk)).trans hk, hb.cell 0, hb.cell 1⟩)
  have HK : Hid (∀ W, Calls Try.prog 16 #[.agg #[.int .u32 a, .int .u32 b]] W fun e w' => e = .returned (.int .u32 a) ∧ Ext W w') := Lib.hid (fun W => keyOf_ok a b W)
  simp only
  go_enter Try.func40, Try.ntmps40
  go_wp2_with fail
  go_region_held3 (fun W => W.cell? ⟨gf, 0, none⟩ = some (.func (.func 16) #[] #[]) ∧ W.cell? ⟨gk, 0, none⟩ = some (.int .u32 key) ∧ W.cell? ⟨w.heap.size, 0, none⟩ = some (.int .u32 a) ∧ W.cell? ⟨w.heap.size, 1, none⟩ = some (.int .u32 b)) (first | exact HC.out _ xt | go_keep) (first
    | (go_at_call 16; refine (HK.out _).mono ?_; rintro e w1 ⟨rfl, x1⟩; replace xt := xt.trans x1; clear x1))
  all_goals
    go_wp2_with fail
    go_ret
    exact ⟨rfl, ((Ext.refl w).alloc _).trans xt⟩
set_option maxRecDepth 100000 in
set_option maxHeartbeats 1000000 in
theorem idxPut_ok (w : World) (A : Option Addr) (n c : Nat) (ps : List Pr) (f : Pr → Bool) (c0 c1 : Value) (hl : ps.length = n) (hn : n ≤ 1000000) (h : PAt w A ps)
    (hf : ∀ (W : World) (p : Pr), Ext w W → Calls Try.prog 37 #[.agg #[.int .u32 p.1, .int .u32 p.2], c0, c1] W fun e w' => e = .returned (.bool (f p)) ∧ Ext W w') :
    Calls Try.prog 36 #[.slice A n c, .func (.func 37) #[] #[c0, c1]] w fun e w' => e = .returned (.int .i64 (idxP ps f)) ∧ Ext w w' := by
  have HP := Lib.hid h
  have HL := Lib.hid hl
  have HF := Lib.hid hf
  clear h hl hf
  go_enter Try.func36, Try.ntmps36
  go_wp2_with fail
  go_loopw [8] (fun i wr => ∃ k : Nat, k ≤ n ∧ i = .int .i64 k ∧ Ext w wr ∧ ∀ j, j < k → f (ps.getD j (0, 0)) = false) (fun i _ => n - (intOf i).toNat)
  case atStart => exact ⟨0, Nat.zero_le _, rfl, Ext.refl _, fun j hj => absurd hj (by omega)⟩
  case round =>
    obtain ⟨k, hk, rfl, xk, hne⟩ := hrel
    have XK := Lib.hid xk
    have NE := Lib.hid hne
    clear xk hne
    by_cases hlt : k < n
    · have v1 : decide (k < n) = true := by simp; omega
      have hll := HL.out
      obtain ⟨ad, hA, hbl, hc⟩ := (HP.out.ext XK.out) (by omega)
      obtain ⟨q0, q1⟩ := hc k (by omega)
      have HFk := Lib.hid (HF.out wr (ps.getD k (0, 0)) XK.out)
      obtain ⟨b, hb⟩ : ∃ b, f (ps.getD k (0, 0)) = b := ⟨_, rfl⟩
      rw [hb] at HFk
      have HBB := Lib.hid hb
      generalize hz : ps.getD k (0, 0) = z at q0 q1 HFk
      clear hc hll hz hb
      obtain ⟨za, zb⟩ := z
      simp only at q0 q1 HFk
      subst hA
      go_wp2_with fail
      refine HFk.out.mono ?_
      rintro e w2 ⟨rfl, x2⟩
      have X2 := Lib.hid (XK.out.trans x2)
      clear x2 HFk q0 q1
      cases b
      · go_wp2_with fail
        go_roundw
        case rel =>
          refine ⟨k + 1, by omega, by go_num, X2.out, fun j hj => ?_⟩
          by_cases hjk : j < k
          · exact NE.out j hjk
          · obtain rfl : j = k := by omega
            exact HBB.out
        case measure => simp [intOf]; omega
      · go_wp2_with fail
        have e1 := idxP_at f ps k (by rw [HL.out]; exact hlt) NE.out HBB.out
        rw [e1]
        go_ret
        exact ⟨rfl, X2.out⟩
    · have v1 : decide (k < n) = false := by simp; omega
      obtain rfl : k = n := by omega
      go_wp2_with fail
      have e1 := idxP_none f ps (by rw [HL.out]; exact NE.out)
      rw [e1]
      go_ret
      exact ⟨rfl, XK.out⟩
set_option maxRecDepth 100000 in
set_option maxHeartbeats 1000000 in
theorem idxCut_ok (w : World) (A : Option Addr) (n c : Nat) (ps : List Pr) (f : Pr → Bool) (c0 c1 : Value) (hl : ps.length = n) (hn : n ≤ 1000000) (h : PAt w A ps)
    (hf : ∀ (W : World) (p : Pr), Ext w W → Calls Try.prog 40 #[.agg #[.int .u32 p.1, .int .u32 p.2], c0, c1] W fun e w' => e = .returned (.bool (f p)) ∧ Ext W w') :
    Calls Try.prog 36 #[.slice A n c, .func (.func 40) #[] #[c0, c1]] w fun e w' => e = .returned (.int .i64 (idxP ps f)) ∧ Ext w w' := by
  have HP := Lib.hid h
  have HL := Lib.hid hl
  have HF := Lib.hid hf
  clear h hl hf
  go_enter Try.func36, Try.ntmps36
  go_wp2_with fail
  go_loopw [8] (fun i wr => ∃ k : Nat, k ≤ n ∧ i = .int .i64 k ∧ Ext w wr ∧ ∀ j, j < k → f (ps.getD j (0, 0)) = false) (fun i _ => n - (intOf i).toNat)
  case atStart => exact ⟨0, Nat.zero_le _, rfl, Ext.refl _, fun j hj => absurd hj (by omega)⟩
  case round =>
    obtain ⟨k, hk, rfl, xk, hne⟩ := hrel
    have XK := Lib.hid xk
    have NE := Lib.hid hne
    clear xk hne
    by_cases hlt : k < n
    · have v1 : decide (k < n) = true := by simp; omega
      have hll := HL.out
      obtain ⟨ad, hA, hbl, hc⟩ := (HP.out.ext XK.out) (by omega)
      obtain ⟨q0, q1⟩ := hc k (by omega)
      have HFk := Lib.hid (HF.out wr (ps.getD k (0, 0)) XK.out)
      obtain ⟨b, hb⟩ : ∃ b, f (ps.getD k (0, 0)) = b := ⟨_, rfl⟩
      rw [hb] at HFk
      have HBB := Lib.hid hb
      generalize hz : ps.getD k (0, 0) = z at q0 q1 HFk
      clear hc hll hz hb
      obtain ⟨za, zb⟩ := z
      simp only at q0 q1 HFk
      subst hA
      go_wp2_with fail
      refine HFk.out.mono ?_
      rintro e w2 ⟨rfl, x2⟩
      have X2 := Lib.hid (XK.out.trans x2)
      clear x2 HFk q0 q1
      cases b
      · go_wp2_with fail
        go_roundw
        case rel =>
          refine ⟨k + 1, by omega, by go_num, X2.out, fun j hj => ?_⟩
          by_cases hjk : j < k
          · exact NE.out j hjk
          · obtain rfl : j = k := by omega
            exact HBB.out
        case measure => simp [intOf]; omega
      · go_wp2_with fail
        have e1 := idxP_at f ps k (by rw [HL.out]; exact hlt) NE.out HBB.out
        rw [e1]
        go_ret
        exact ⟨rfl, X2.out⟩
    · have v1 : decide (k < n) = false := by simp; omega
      obtain rfl : k = n := by omega
      go_wp2_with fail
      have e1 := idxP_none f ps (by rw [HL.out]; exact NE.out)
      rw [e1]
      go_ret
      exact ⟨rfl, XK.out⟩
end Go.Proofs.Ythbngenjcgclgaa
