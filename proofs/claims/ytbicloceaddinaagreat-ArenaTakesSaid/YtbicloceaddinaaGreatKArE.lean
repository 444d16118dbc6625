/- A Take alone: where intents, entries and generations lie; the eight steps by which it takes the first slot; that it takes none where none is free. Conditions: those that each theorem names. -/
import Derived.Test.YtbicloceaddinaaGreatKArD
import Derived.Test.YtbicloceaddinaaGreatKFM
import Derived.Test.YtbicloceaddinaaGreatKLkA
import Derived.Deep.DeepCutAuto
import Derived.Deep.CutBlock
import Derived.Deep.MidRow
namespace Go.Proofs.YtbicloceaddinaaGreat
open Go.ChangeShapes Go.WideShapes Go.ChangeAt Go.RowKit
set_option linter.unusedVariables false
namespace TA
section
variable {t s l b : Nat}
theorem one8 {l : Nat} (h0 : 0 < l) (h1 : l ≤ 8) : ((l : Int) + 7) / 8 = 1 := by omega
theorem int_at {th : Nat} (hb0 : 0 < b) (hb : b ≤ 8) (h : th < t) : intN (layF t s l b) th = 49 + 8 * (th : Int) := by
  have e : intN (layF t s l b) th = if 0 ≤ (th : Int) ∧ (th : Int) < (t : Int) then (5 + ((b : Int) + 7) / 8) * 8 + (th : Int) * 8 + 1 else layF t s l b 4 * 8 := rfl
  rw [e, if_pos ⟨by omega, by omega⟩, one8 hb0 hb]
  omega
theorem log_at {th n : Nat} (hb0 : 0 < b) (hb : b ≤ 8) (hl0 : 0 < l) (hl : l ≤ 8) (h : th < t) (hn : n < l) : logN (layF t s l b) th n = 48 + 8 * (t : Int) + 8 * (th : Int) + (n : Int) := by
  have e : logN (layF t s l b) th n = if 0 ≤ (n : Int) ∧ (n : Int) < (l : Int) then wordAt (layF t s l b 4) ((5 + ((b : Int) + 7) / 8 + (t : Int)) * 8) (((l : Int) + 7) / 8 * 8) (t : Int) th n else layF t s l b 4 * 8 := rfl
  rw [e, if_pos ⟨by omega, by omega⟩]
  unfold wordAt
  rw [if_pos ⟨by omega, by omega⟩, one8 hb0 hb, one8 hl0 hl]
  omega
theorem gen_at {k : Nat} (hb0 : 0 < b) (hb : b ≤ 8) (hl0 : 0 < l) (hl : l ≤ 8) (h : k < s) : genN (layF t s l b) k = 48 + 16 * (t : Int) + 8 * (k : Int) := by
  have e : genN (layF t s l b) k = if 0 ≤ (k : Int) ∧ (k : Int) < (s : Int) then (5 + ((b : Int) + 7) / 8 + (t : Int) + (t : Int) * (((l : Int) + 7) / 8)) * 8 + (k : Int) * 8 + 0 else layF t s l b 4 * 8 := rfl
  rw [e, if_pos ⟨by omega, by omega⟩, one8 hb0 hb, one8 hl0 hl]
  omega
theorem wN_at (hb0 : 0 < b) (hb : b ≤ 8) (hl0 : 0 < l) (hl : l ≤ 8) : wN t s l b = 6 + 2 * t + s := by
  unfold wN
  have e1 : (b + 7) / 8 = 1 := by omega
  have e2 : (l + 7) / 8 = 1 := by omega
  rw [e1, e2]
  omega
/-- All other words of a ground are 0. -/
theorem ground_else {n : Nat} (hn : n ≤ s) {a : Int} (h2 : a ≠ -2) (ha : -3 - (t : Int) < a) : peekV (groundSt t s l b (rowPs (layF t s l b) (upN n) n)) a = 0 := by
  have pl : ∀ i, i < n → (rowP (layF t s l b) (upN n) i).1 = if i = 0 then -2 else -3 - (t : Int) - ((i - 1 : Nat) : Int) := fun i hi => by
    unfold rowP
    by_cases h : i = 0
    · rw [if_pos h, if_pos h]
    · rw [if_neg h, if_neg h]
      show aft (layF t s l b) ((upN n).getD (i - 1) 0) = _
      rw [upN_at (by omega), aft_at (by omega) (by omega)]
  have key := putAll_peek (MOk.start t s l b) (rowP (layF t s l b) (upN n)) (fun _ => Or.inr trivial) n (fun i hi => by
    rw [pl i hi]
    split <;> omega) (fun i j hij hj => by
    rw [pl i (by omega), pl j hj, if_neg (show ¬ j = 0 by omega)]
    split <;> omega)
  have e0 : groundSt t s l b (rowPs (layF t s l b) (upN n) n) = putAll (startSt t s l b) ((List.range n).map (rowP (layF t s l b) (upN n))) := rfl
  rw [e0, key.2 a (fun i hi => by
    rw [pl i hi]
    split <;> omega), start_peek]
/-- What holds behind the first i slots have been taken. -/
structure AA (t s l b th i : Nat) (st : MSt) : Prop where
  ok : LOk (2 + t + s) (wN t s l b) t st
  top : toN (peekV st (-2)) = if i < s then (i : Int) else -1
  nx : ∀ k : Nat, i ≤ k → k < s → nextS (layF t s l b) st k = if k + 1 < s then (k : Int) + 1 else -1
  v : verN (peekV st (-2)) ≤ (i : Int)
  gen : ∀ k : Nat, i ≤ k → k < s → peekV st (genN (layF t s l b) k) = 0
  lg : ∀ n : Nat, n < l → peekV st (logN (layF t s l b) th n) = 0
  an : ∀ j : Nat, j < t → peekV st (ann (layF t s l b) j) = 0
theorem AA.start {th : Nat} (hb0 : 0 < b) (hb : b ≤ 8) (hl0 : 0 < l) (hl : l ≤ 8) (hs1 : s ≤ 1000000) (hth : th < t) : AA t s l b th 0 (groundSt t s l b (rowPs (layF t s l b) (upN s) s)) := by
  have hf := ground_free (t := t) (l := l) (b := b) (Nat.le_refl s) hs1
  refine ⟨(LOk.start t s l b).putAll _, hf.top, fun k _ hk => ?_, ?_, fun k _ hk => ground_else (Nat.le_refl s) (by rw [gen_at hb0 hb hl0 hl hk]; omega) (by rw [gen_at hb0 hb hl0 hl hk]; omega), fun n hn => ground_else (Nat.le_refl s) (by rw [log_at hb0 hb hl0 hl hth hn]; omega) (by rw [log_at hb0 hb hl0 hl hth hn]; omega), fun j hj => ground_else (Nat.le_refl s) (by rw [ann_at (by omega) (by omega)]; omega) (by rw [ann_at (by omega) (by omega)]; omega)⟩
  · split
    · rename_i h
      exact hf.nx k h
    · exact hf.nl k (by omega)
  · have pl : ∀ i, i < s → (rowP (layF t s l b) (upN s) i).1 = if i = 0 then -2 else -3 - (t : Int) - ((i - 1 : Nat) : Int) := fun i hi => by
      unfold rowP
      by_cases h : i = 0
      · rw [if_pos h, if_pos h]
      · rw [if_neg h, if_neg h]
        show aft (layF t s l b) ((upN s).getD (i - 1) 0) = _
        rw [upN_at (by omega), aft_at (by omega) (by omega)]
    have key := putAll_peek (MOk.start t s l b) (rowP (layF t s l b) (upN s)) (fun _ => Or.inr trivial) s (fun i hi => by
      rw [pl i hi]
      split <;> omega) (fun i j hij hj => by
      rw [pl i (by omega), pl j hj, if_neg (show ¬ j = 0 by omega)]
      split <;> omega)
    have e0 : groundSt t s l b (rowPs (layF t s l b) (upN s) s) = putAll (startSt t s l b) ((List.range s).map (rowP (layF t s l b) (upN s))) := rfl
    by_cases h : 0 < s
    · have h1 := key.1 0 h
      rw [pl 0 h, if_pos rfl] at h1
      have e2 : (rowP (layF t s l b) (upN s) 0).2 = 1 := by
        show (upN s).getD 0 0 + 1 = 1
        rw [upN_at h]
        rfl
      rw [e0, h1, e2]
      decide
    · have h1 := key.2 (-2) (fun i hi => absurd hi (by omega))
      rw [e0, h1, start_peek]
      decide
section
variable (F : Nat → Int) (T : Nat) (th : Int) (gu : Nat) (st : MSt)
/-- The first eight steps of a Take that takes. -/
def s1 : MSt := st.load th (-2)
def nx0 : Int := nextS F st (toN (peekV st (-2)))
def s2 : MSt := (s1 th st).load th (aft F (toN (peekV st (-2))))
def s3 : MSt := (s2 F th st).swap th (-2) (peekV st (-2)) (topN (nx0 F st) (ver1 (peekV st (-2))))
def s4 : MSt := (s3 F th st).store th (intN F th) (toN (peekV st (-2)) + 1)
def s5 : MSt := (s4 F th st).flush th (intN F th)
def s6 : MSt := (s5 F th st).fence th
def s7 : MSt := (s6 F th st).load th (genN F (toN (peekV st (-2))))
def g0 : Int := peekV (s6 F th st) (genN F (toN (peekV st (-2))))
def s8 : MSt := (s7 F th st).store th (genN F (toN (peekV st (-2)))) (IntKind.u64.wrap (g0 F th st + 1))
def took (p : Nat) (gen : Int) : TkM := ⟨p, gu, ⟨0, peekV st (-2), nx0 F st, true⟩, none, none, none, false, 0, gen⟩
def run : Nat → TkM × MSt
  | 0 => (⟨1, gu, pm0, none, none, none, false, 0, 0⟩, st)
  | 1 => (⟨1, gu, ⟨1, peekV st (-2), 0, false⟩, none, none, none, false, 0, 0⟩, s1 th st)
  | 2 => (⟨1, gu, ⟨2, peekV st (-2), nx0 F st, false⟩, none, none, none, false, 0, 0⟩, s2 F th st)
  | 3 => (took F gu st 5 0, s3 F th st)
  | 4 => (took F gu st 6 0, s4 F th st)
  | 5 => (took F gu st 7 0, s5 F th st)
  | 6 => (took F gu st 8 0, s6 F th st)
  | 7 => (took F gu st 9 (g0 F th st), s7 F th st)
  | _ => (took F gu st 0 (g0 F th st), s8 F th st)
end
theorem run_step {F : Nat → Int} {T P N : Nat} {th : Int} {gu : Nat} {st : MSt} (ok : MOk P N st) (hP : 2 ≤ P) (h0 : 0 ≤ toN (peekV st (-2))) (k n1 n2 : Nat) : tkS F T th (run F th gu st k).1 (run F th gu st k).2 n1 n2 = run F th gu st (k + 1) := by
  have hne : ¬ toN (peekV st (-2)) = -1 := by omega
  have hk : k = 0 ∨ k = 1 ∨ k = 2 ∨ k = 3 ∨ k = 4 ∨ k = 5 ∨ k = 6 ∨ k = 7 ∨ ∃ j, k = j + 8 := by
    by_cases h : k < 8
    · omega
    · exact Or.inr (Or.inr (Or.inr (Or.inr (Or.inr (Or.inr (Or.inr (Or.inr ⟨k - 8, by omega⟩)))))))
  rcases hk with rfl | rfl | rfl | rfl | rfl | rfl | rfl | rfl | ⟨j, rfl⟩
  · show tk1 ⟨1, gu, pm0, none, none, none, false, 0, 0⟩ (popS F th pm0 st) n1 n2 = _
    have e : popS F th pm0 st = (⟨1, peekV st (-2), 0, false⟩, st.load th (-2)) := by
      show (PMs.mk 1 (peekV st (-2)) 0 (toN (peekV st (-2)) == -1), st.load th (-2)) = _
      rw [show (toN (peekV st (-2)) == -1) = false from by simpa using hne]
    rw [e]
    rfl
  · show tk1 ⟨1, gu, ⟨1, peekV st (-2), 0, false⟩, none, none, none, false, 0, 0⟩ (popS F th ⟨1, peekV st (-2), 0, false⟩ (s1 th st)) n1 n2 = _
    have e : popS F th ⟨1, peekV st (-2), 0, false⟩ (s1 th st) = (⟨2, peekV st (-2), nx0 F st, false⟩, s2 F th st) := by
      show (PMs.mk 2 (peekV st (-2)) (toN (peekV (s1 th st) (aft F (toN (peekV st (-2)))))) false, (s1 th st).load th (aft F (toN (peekV st (-2))))) = _
      rw [show peekV (s1 th st) (aft F (toN (peekV st (-2)))) = peekV st (aft F (toN (peekV st (-2)))) from peekV_load _ _ _ _]
      rfl
    rw [e]
    rfl
  · show tk1 ⟨1, gu, ⟨2, peekV st (-2), nx0 F st, false⟩, none, none, none, false, 0, 0⟩ (popS F th ⟨2, peekV st (-2), nx0 F st, false⟩ (s2 F th st)) n1 n2 = _
    have ok2 : MOk P N (s2 F th st) := (ok.load _ _).load _ _
    have ep : peekV (s2 F th st) (-2) = peekV st (-2) := (peekV_load _ _ _ _).trans (peekV_load _ _ _ _)
    have e : popS F th ⟨2, peekV st (-2), nx0 F st, false⟩ (s2 F th st) = (⟨0, peekV st (-2), nx0 F st, true⟩, s3 F th st) := by
      show (PMs.mk 0 (peekV st (-2)) (nx0 F st) (swapB (s2 F th st) (-2) (peekV st (-2))), (s2 F th st).swap th (-2) (peekV st (-2)) (topN (nx0 F st) (ver1 (peekV st (-2))))) = _
      have hb := swapB_self ok2 hP
      rw [ep] at hb
      rw [hb]
      rfl
    rw [e]
    show (if toN (peekV st (-2)) = -1 then _ else _, _) = _
    rw [if_neg hne]
    rfl
  all_goals rfl
/-- What the eight steps leave. -/
theorem run_end {th i gu : Nat} {st : MSt} (hb0 : 0 < b) (hb : b ≤ 8) (hl0 : 0 < l) (hl : l ≤ 8) (hs1 : s ≤ 1000) (hth : th < t) (hi : i < s) (hw : ∀ a, W64 (peekV st a)) (h : AA t s l b th i st) :
    AA t s l b th (i + 1) (run (layF t s l b) th gu st 8).2 ∧ peekV (run (layF t s l b) th gu st 8).2 (genN (layF t s l b) i) = 1 ∧ keptV (run (layF t s l b) th gu st 8).2 (intN (layF t s l b) th) = (i : Int) + 1 := by
  have hN := wN_at (t := t) (s := s) hb0 hb hl0 hl
  have et : toN (peekV st (-2)) = (i : Int) := by rw [h.top, if_pos hi]
  have eI := int_at (s := s) (l := l) hb0 hb hth
  have eG : ∀ k : Nat, k < s → genN (layF t s l b) k = 48 + 16 * (t : Int) + 8 * (k : Int) := fun k hk => gen_at hb0 hb hl0 hl hk
  have eL : ∀ n : Nat, n < l → logN (layF t s l b) th n = 48 + 8 * (t : Int) + 8 * (th : Int) + (n : Int) := fun n hn => log_at hb0 hb hl0 hl hth hn
  have okk := h.ok
  have o3 : LOk (2 + t + s) (wN t s l b) t (s3 (layF t s l b) th st) := ((okk.load _ _).load _ _).swap _ _ _ _
  have p2 : ∀ a, peekV (s2 (layF t s l b) th st) a = peekV st a := fun a => (peekV_load _ _ _ _).trans (peekV_load _ _ _ _)
  have p3 : ∀ a, peekV (s3 (layF t s l b) th st) a = if a = -2 then topN (nx0 (layF t s l b) st) (ver1 (peekV st (-2))) else peekV st a := fun a => by
    have k2 : MOk (2 + t + s) (wN t s l b) (s2 (layF t s l b) th st) := (okk.ok.load _ _).load _ _
    have := peekV_swap k2 (k2.is (a := -2) (by omega) (by omega)) th (peekV st (-2)) (topN (nx0 (layF t s l b) st) (ver1 (peekV st (-2)))) a
    rw [p2, p2] at this
    show peekV ((s2 (layF t s l b) th st).swap th (-2) (peekV st (-2)) (topN (nx0 (layF t s l b) st) (ver1 (peekV st (-2))))) a = _
    rw [this]
    by_cases e : a = -2
    · rw [if_pos ⟨e, rfl⟩, if_pos e]
    · rw [if_neg (fun e2 => e e2.1), if_neg e]
  have iI : 0 ≤ intN (layF t s l b) th ∧ intN (layF t s l b) th < (wN t s l b : Int) * 8 := by rw [eI, hN]; omega
  have iG : 0 ≤ genN (layF t s l b) i ∧ genN (layF t s l b) i < (wN t s l b : Int) * 8 := by rw [eG i hi, hN]; omega
  have o4 : LOk (2 + t + s) (wN t s l b) t (s4 (layF t s l b) th st) := o3.store _ _ _
  have p4 : ∀ a, peekV (s4 (layF t s l b) th st) a = if a = intN (layF t s l b) th then (i : Int) + 1 else peekV (s3 (layF t s l b) th st) a := fun a => by
    have := peekV_store o3.ok (o3.ok.is (by omega) iI.2) th (toN (peekV st (-2)) + 1) a
    rw [et] at this
    show peekV ((s3 (layF t s l b) th st).store th (intN (layF t s l b) th) (toN (peekV st (-2)) + 1)) a = _
    rw [et]
    exact this
  obtain ⟨o6, p6, k6⟩ := lk_last o4 (t := (th : Int)) (by omega) (by omega) iI.1 iI.2
  have o6' : LOk (2 + t + s) (wN t s l b) t (s6 (layF t s l b) th st) := o6
  have p6' : ∀ a, peekV (s6 (layF t s l b) th st) a = peekV (s4 (layF t s l b) th st) a := p6
  have k6' : keptV (s6 (layF t s l b) th st) (intN (layF t s l b) th) = peekV (s4 (layF t s l b) th st) (intN (layF t s l b) th) := k6
  have o7 : LOk (2 + t + s) (wN t s l b) t (s7 (layF t s l b) th st) := o6'.load _ _
  have p7 : ∀ a, peekV (s7 (layF t s l b) th st) a = peekV (s6 (layF t s l b) th st) a := fun a => peekV_load _ _ _ _
  have eg0 : g0 (layF t s l b) th st = 0 := by
    unfold g0
    rw [p6', p4, p3, et, if_neg (by rw [eG i hi, eI]; omega), if_neg (by rw [eG i hi]; omega)]
    exact h.gen i (Nat.le_refl i) hi
  have p8 : ∀ a, peekV (s8 (layF t s l b) th st) a = if a = genN (layF t s l b) i then 1 else peekV (s7 (layF t s l b) th st) a := fun a => by
    have := peekV_store o7.ok (o7.ok.is (by omega) iG.2) th 1 a
    show peekV ((s7 (layF t s l b) th st).store th (genN (layF t s l b) (toN (peekV st (-2)))) (IntKind.u64.wrap (g0 (layF t s l b) th st + 1))) a = _
    rw [et, eg0]
    exact this
  have o8 : LOk (2 + t + s) (wN t s l b) t (s8 (layF t s l b) th st) := o7.store _ _ _
  have all : ∀ a, peekV (s8 (layF t s l b) th st) a = if a = genN (layF t s l b) i then 1 else if a = intN (layF t s l b) th then (i : Int) + 1 else if a = -2 then topN (nx0 (layF t s l b) st) (ver1 (peekV st (-2))) else peekV st a := fun a => by
    rw [p8, p7, p6', p4, p3]
  have other : ∀ a, a ≠ genN (layF t s l b) i → a ≠ intN (layF t s l b) th → a ≠ -2 → peekV (s8 (layF t s l b) th st) a = peekV st a := fun a h1 h2 h3 => by
    rw [all, if_neg h1, if_neg h2, if_neg h3]
  have enx : nx0 (layF t s l b) st = if i + 1 < s then (i : Int) + 1 else -1 := by
    unfold nx0
    rw [et]
    exact h.nx i (Nat.le_refl i) hi
  have rnx : -1 ≤ nx0 (layF t s l b) st ∧ nx0 (layF t s l b) st < 1001 := by
    rw [enx]
    split <;> omega
  have hv := h.v
  have hv0 := (verN_rng (hw (-2))).1
  have ev : ver1 (peekV st (-2)) = verN (peekV st (-2)) + 1 := by unfold ver1; omega
  have e2 : peekV (s8 (layF t s l b) th st) (-2) = topN (nx0 (layF t s l b) st) (verN (peekV st (-2)) + 1) := by
    rw [all, if_neg (by rw [eG i hi]; omega), if_neg (by rw [eI]; omega), if_pos rfl, ev]
  have tn : toN (topN (nx0 (layF t s l b) st) (verN (peekV st (-2)) + 1)) = nx0 (layF t s l b) st := toN_top (by omega) (by omega)
  have vn : verN (topN (nx0 (layF t s l b) st) (verN (peekV st (-2)) + 1)) = verN (peekV st (-2)) + 1 := by
    unfold verN topN at *
    omega
  have kk : keptV (s8 (layF t s l b) th st) (intN (layF t s l b) th) = (i : Int) + 1 := by
    have q1 : keptV (s8 (layF t s l b) th st) (intN (layF t s l b) th) = keptV (s7 (layF t s l b) th st) (intN (layF t s l b) th) := (SeenOnly.store _ _ _ _).kept _
    have q2 : keptV (s7 (layF t s l b) th st) (intN (layF t s l b) th) = keptV (s6 (layF t s l b) th st) (intN (layF t s l b) th) := (SeenOnly.load _ _ _).kept _
    rw [q1, q2, k6', p4, if_pos rfl]
  refine ⟨⟨o8, ?_, fun k h1 h2 => ?_, ?_, fun k h1 h2 => ?_, fun n hn => ?_, fun j hj => ?_⟩, ?_, kk⟩
  · show toN (peekV (s8 (layF t s l b) th st) (-2)) = _
    rw [e2, tn, enx]
    rfl
  · show toN (peekV (s8 (layF t s l b) th st) (aft (layF t s l b) k)) = _
    have ea := aft_at (t := t) (s := s) (l := l) (b := b) (n := (k : Int)) (by omega) (by omega)
    rw [other _ (by rw [ea, eG i hi]; omega) (by rw [ea, eI]; omega) (by rw [ea]; omega)]
    exact h.nx k (by omega) h2
  · show verN (peekV (s8 (layF t s l b) th st) (-2)) ≤ _
    rw [e2, vn]
    omega
  · show peekV (s8 (layF t s l b) th st) (genN (layF t s l b) k) = 0
    rw [other _ (by rw [eG k h2, eG i hi]; omega) (by rw [eG k h2, eI]; omega) (by rw [eG k h2]; omega)]
    exact h.gen k (by omega) h2
  · show peekV (s8 (layF t s l b) th st) (logN (layF t s l b) th n) = 0
    rw [other _ (by rw [eL n hn, eG i hi]; omega) (by rw [eL n hn, eI]; omega) (by rw [eL n hn]; omega)]
    exact h.lg n hn
  · show peekV (s8 (layF t s l b) th st) (ann (layF t s l b) j) = 0
    have ea := ann_at (t := t) (s := s) (l := l) (b := b) (n := (j : Int)) (by omega) (by omega)
    rw [other _ (by rw [ea, eG i hi]; omega) (by rw [ea, eI]; omega) (by rw [ea]; omega)]
    exact h.an j hj
  · show peekV (s8 (layF t s l b) th st) (genN (layF t s l b) i) = 1
    rw [all, if_pos rfl]
/-- A Take where none is free: what holds of it, and how many steps it may take yet. -/
structure NN (F : Nat → Int) (T L : Nat) (th : Int) (P N : Nat) (x : TkM) (s : MSt) : Prop where
  wf : x.Wf T L
  ok : MOk P N s
  top : toN (peekV s (-2)) = -1
  lg : ∀ n : Nat, n < L → peekV s (logN F th n) = 0
  p : x.part ≤ 4
  p1 : (x.part = 1 ∨ x.part = 4) → x.pop = pm0
  p3 : x.part = 3 → ∀ q, x.rc = some q → q.2.part = 0 ∨ q.2.part = 1
  p0 : x.part = 0 → toN x.pop.top = -1 ∧ x.dry = true ∧ x.empty = s.clock
def mu (T L : Nat) (x : TkM) : Int :=
  match x.part with
  | 0 => 0
  | 1 => 10 + (L : Int) + (T : Int)
  | 2 => match x.adv with | none => 1 | some q => (L : Int) + 5 + (if q.2.ld = true then (T : Int) - q.2.asked else (T : Int) + 1)
  | 3 => match x.rc with | none => 1 | some q => 2 + (if q.2.part = 0 then (L : Int) + 1 else (L : Int) - q.2.place)
  | _ => 1
theorem over0 (E : Int) : overB E 0 = false := by
  unfold overB
  have e : toN 0 = -1 := by decide
  rw [e]
  rfl
theorem pop_none0 {F : Nat → Int} {th : Int} {st : MSt} (h : toN (peekV st (-2)) = -1) : popS F th pm0 st = (⟨1, peekV st (-2), 0, true⟩, st.load th (-2)) := by
  show (PMs.mk 1 (peekV st (-2)) 0 (toN (peekV st (-2)) == -1), st.load th (-2)) = _
  rw [h]
  rfl
theorem NN.step {F : Nat → Int} {T L P N : Nat} {th n : Int} {x : TkM} {s : MSt} (h : NN F T L th P N x s) (hL : F 2 = (L : Int)) (h0L : 0 < L) (hP : 0 < P) (hlg : ∀ n : Nat, n < L → 0 ≤ logN F th n) (hU : ∀ a, W64 (peekV s a)) (hc : CalmN n s) (n1 n2 : Nat) :
    NN F T L th P N (tkS F T th x s n1 n2).1 (tkS F T th x s n1 n2).2 ∧ (x.part ≠ 0 → (tkS F T th x s n1 n2).1.part = 0 ∨ mu T L (tkS F T th x s n1 n2).1 + 1 ≤ mu T L x) := by
  have hw := (tkS_wf (F := F) (t := th) (n1 := n1) (n2 := n2) hL h0L hU h.wf hc).1
  have hx := h.wf
  have h4 := h.p
  have hcs : x.part = 0 ∨ x.part = 1 ∨ x.part = 2 ∨ x.part = 3 ∨ x.part = 4 := by omega
  obtain ⟨part, gu, pop, av, adv, rc, dry, empty, gen⟩ := x
  simp only at hcs
  rcases hcs with rfl | rfl | rfl | rfl | rfl
  · exact ⟨h, fun e => absurd rfl e⟩
  · obtain ⟨e1, e2⟩ := hx.p1 rfl
    have e3 := h.p1 (Or.inl rfl)
    simp only at e1 e2 e3
    subst e1 e2 e3
    have et : tkS F T th ⟨1, gu, pm0, av, none, none, dry, empty, gen⟩ s n1 n2 = (⟨2, gu, ⟨1, peekV s (-2), 0, true⟩, some ⟨n1, 0, none⟩, some (n1, am0), some (n2, rc0), dry, empty, gen⟩, s.load th (-2)) := by
      show tk1 ⟨1, gu, pm0, av, none, none, dry, empty, gen⟩ (popS F th pm0 s) n1 n2 = _
      rw [pop_none0 h.top]
      unfold tk1
      simp only [h.top, if_true, Bool.true_eq_false, if_false]
    rw [et] at hw ⊢
    refine ⟨⟨hw, h.ok.load _ _, by rw [peekV_load]; exact h.top, fun n hn => by rw [peekV_load]; exact h.lg n hn, by show 2 ≤ 4; decide, fun e => by simp at e, fun e => by simp at e, fun e => by simp at e⟩, fun _ => Or.inr ?_⟩
    show (L : Int) + 5 + ((T : Int) + 1) + 1 ≤ 10 + (L : Int) + (T : Int)
    omega
  · obtain ⟨ga, a, gr, e1, e2, haw, had, e3⟩ := hx.p2 rfl
    simp only at e1 e2 e3
    subst e1 e2 e3
    obtain ⟨dn, ld, ep, asked, mv⟩ := a
    simp only at had
    subst had
    have hak := haw.asked
    simp only at hak
    have et : tkS F T th ⟨2, gu, pop, some ⟨ga, 0, none⟩, some (ga, ⟨false, ld, ep, asked, mv⟩), some (gr, rc0), dry, empty, gen⟩ s n1 n2 = tk2 ⟨2, gu, pop, some ⟨ga, 0, none⟩, some (ga, ⟨false, ld, ep, asked, mv⟩), some (gr, rc0), dry, empty, gen⟩ ga (advS F T th ⟨false, ld, ep, asked, mv⟩ s) := rfl
    rw [et] at hw ⊢
    cases ld
    · have ea : advS F T th ⟨false, false, ep, asked, mv⟩ s = (⟨false, true, peekV s (-1), asked, mv⟩, s.load th (-1)) := rfl
      rw [ea] at hw ⊢
      refine ⟨⟨hw, h.ok.load _ _, by show toN (peekV (s.load th (-1)) (-2)) = -1; rw [peekV_load]; exact h.top, fun n hn => by show peekV (s.load th (-1)) _ = 0; rw [peekV_load]; exact h.lg n hn, by show 2 ≤ 4; decide, fun e => absurd e (by show ¬ ((2 : Nat) = 1 ∨ (2 : Nat) = 4); decide), fun e => absurd e (by show ¬ (2 : Nat) = 3; decide), fun e => absurd e (by show ¬ (2 : Nat) = 0; decide)⟩, fun _ => Or.inr ?_⟩
      show (L : Int) + 5 + ((T : Int) - (asked : Int)) + 1 ≤ (L : Int) + 5 + ((T : Int) + 1)
      omega
    · by_cases hT : asked < T
      · have ea : advS F T th ⟨false, true, ep, asked, mv⟩ s = (⟨holds ep (peekV s (ann F asked)), true, ep, asked + 1, mv⟩, s.load th (ann F asked)) := by
          unfold advS
          rw [if_neg (by simp), if_neg (by simp), if_pos (by show asked < T; exact hT)]
        rw [ea] at hw ⊢
        generalize holds ep (peekV s (ann F asked)) = hd at *
        cases hd
        · refine ⟨⟨hw, h.ok.load _ _, by show toN (peekV (s.load th (ann F asked)) (-2)) = -1; rw [peekV_load]; exact h.top, fun n hn => by show peekV (s.load th (ann F asked)) _ = 0; rw [peekV_load]; exact h.lg n hn, by show 2 ≤ 4; decide, fun e => absurd e (by show ¬ ((2 : Nat) = 1 ∨ (2 : Nat) = 4); decide), fun e => absurd e (by show ¬ (2 : Nat) = 3; decide), fun e => absurd e (by show ¬ (2 : Nat) = 0; decide)⟩, fun _ => Or.inr ?_⟩
          show (L : Int) + 5 + ((T : Int) - ((asked + 1 : Nat) : Int)) + 1 ≤ (L : Int) + 5 + ((T : Int) - (asked : Int))
          omega
        · refine ⟨⟨hw, h.ok.load _ _, by show toN (peekV (s.load th (ann F asked)) (-2)) = -1; rw [peekV_load]; exact h.top, fun n hn => by show peekV (s.load th (ann F asked)) _ = 0; rw [peekV_load]; exact h.lg n hn, by show 3 ≤ 4; decide, fun e => absurd e (by show ¬ ((3 : Nat) = 1 ∨ (3 : Nat) = 4); decide), fun _ q e => by injection e with e; subst e; exact Or.inl rfl, fun e => absurd e (by show ¬ (3 : Nat) = 0; decide)⟩, fun _ => Or.inr ?_⟩
          show 2 + ((L : Int) + 1) + 1 ≤ (L : Int) + 5 + ((T : Int) - (asked : Int))
          omega
      · have ea : advS F T th ⟨false, true, ep, asked, mv⟩ s = (⟨true, true, ep, asked, swapB s (-1) ep⟩, s.swap th (-1) ep (next64 ep)) := by
          unfold advS
          rw [if_neg (by simp), if_neg (by simp), if_neg (by show ¬ asked < T; exact hT)]
        rw [ea] at hw ⊢
        have pk : ∀ a, a ≠ -1 → peekV (s.swap th (-1) ep (next64 ep)) a = peekV s a := fun a ha => by
          rw [peekV_swap h.ok (h.ok.is (by omega) (by omega)), if_neg (fun e => ha e.1)]
        refine ⟨⟨hw, h.ok.swap _ _ _ _, by show toN (peekV (s.swap th (-1) ep (next64 ep)) (-2)) = -1; rw [pk _ (by decide)]; exact h.top, fun n hn => by show peekV (s.swap th (-1) ep (next64 ep)) _ = 0; rw [pk _ (by have := hlg n hn; omega)]; exact h.lg n hn, by show 3 ≤ 4; decide, fun e => absurd e (by show ¬ ((3 : Nat) = 1 ∨ (3 : Nat) = 4); decide), fun _ q e => by injection e with e; subst e; exact Or.inl rfl, fun e => absurd e (by show ¬ (3 : Nat) = 0; decide)⟩, fun _ => Or.inr ?_⟩
        show 2 + ((L : Int) + 1) + 1 ≤ (L : Int) + 5 + ((T : Int) - (asked : Int))
        omega
  · obtain ⟨gr, r, e1, hrw, hrd, e2⟩ := hx.p3 rfl
    simp only at e1 e2
    subst e1 e2
    have hrp := h.p3 rfl (gr, r) rfl
    obtain ⟨dn, rpart, ep, place, sl, push, ct⟩ := r
    simp only at hrd hrp
    subst hrd
    have hpl := hrw.wf.place
    have hlt := hrw.wf.lt rfl
    simp only at hpl hlt
    have et : tkS F T th ⟨3, gu, pop, av, none, some (gr, ⟨false, rpart, ep, place, sl, push, ct⟩), dry, empty, gen⟩ s n1 n2 = tk3 ⟨3, gu, pop, av, none, some (gr, ⟨false, rpart, ep, place, sl, push, ct⟩), dry, empty, gen⟩ gr (rcS F th ⟨false, rpart, ep, place, sl, push, ct⟩ s n1) n2 := rfl
    rw [et] at hw ⊢
    rcases hrp with rfl | rfl
    · have er : rcS F th ⟨false, 0, ep, place, sl, push, ct⟩ s n1 = (⟨decide (F 2 ≤ 0), 1, peekV s (-1), 0, sl, push, ct⟩, s.load th (-1)) := rfl
      rw [er, hL, show decide ((L : Int) ≤ 0) = false from by simp; omega] at hw ⊢
      refine ⟨⟨hw, h.ok.load _ _, by show toN (peekV (s.load th (-1)) (-2)) = -1; rw [peekV_load]; exact h.top, fun n hn => by show peekV (s.load th (-1)) _ = 0; rw [peekV_load]; exact h.lg n hn, by show 3 ≤ 4; decide, fun e => absurd e (by show ¬ ((3 : Nat) = 1 ∨ (3 : Nat) = 4); decide), fun _ q e => by injection e with e; subst e; exact Or.inr rfl, fun e => absurd e (by show ¬ (3 : Nat) = 0; decide)⟩, fun _ => Or.inr ?_⟩
      show 2 + ((L : Int) - 0) + 1 ≤ 2 + ((L : Int) + 1)
      omega
    · obtain ⟨k, rfl⟩ := Int.eq_ofNat_of_zero_le hpl.1
      have hz := h.lg k (by omega)
      have er : rcS F th ⟨false, 1, ep, (k : Int), sl, push, ct⟩ s n1 = (if overB ep (peekV s (logN F th (k : Int))) = true then ⟨false, 2, ep, (k : Int), toN (peekV s (logN F th (k : Int))), push, ct⟩ else ⟨decide (F 2 ≤ (k : Int) + 1), 1, ep, (k : Int) + 1, sl, push, ct⟩, s.load th (logN F th (k : Int))) := rfl
      rw [er, hz, over0, if_neg (by decide), hL] at hw ⊢
      by_cases hd : (L : Int) ≤ (k : Int) + 1
      · rw [show decide ((L : Int) ≤ (k : Int) + 1) = true from by simp; omega] at hw ⊢
        refine ⟨⟨hw, h.ok.load _ _, by show toN (peekV (s.load th (logN F th (k : Int))) (-2)) = -1; rw [peekV_load]; exact h.top, fun n hn => by show peekV (s.load th (logN F th (k : Int))) _ = 0; rw [peekV_load]; exact h.lg n hn, by show 4 ≤ 4; decide, fun _ => rfl, fun e => absurd e (by show ¬ (4 : Nat) = 3; decide), fun e => absurd e (by show ¬ (4 : Nat) = 0; decide)⟩, fun _ => Or.inr ?_⟩
        show (1 : Int) + 1 ≤ 2 + ((L : Int) - (k : Int))
        omega
      · rw [show decide ((L : Int) ≤ (k : Int) + 1) = false from by simp; omega] at hw ⊢
        refine ⟨⟨hw, h.ok.load _ _, by show toN (peekV (s.load th (logN F th (k : Int))) (-2)) = -1; rw [peekV_load]; exact h.top, fun n hn => by show peekV (s.load th (logN F th (k : Int))) _ = 0; rw [peekV_load]; exact h.lg n hn, by show 3 ≤ 4; decide, fun e => absurd e (by show ¬ ((3 : Nat) = 1 ∨ (3 : Nat) = 4); decide), fun _ q e => by injection e with e; subst e; exact Or.inr rfl, fun e => absurd e (by show ¬ (3 : Nat) = 0; decide)⟩, fun _ => Or.inr ?_⟩
        show 2 + ((L : Int) - ((k : Int) + 1)) + 1 ≤ 2 + ((L : Int) - (k : Int))
        omega
  · have e3 := h.p1 (Or.inr rfl)
    simp only at e3
    subst e3
    have et : tkS F T th ⟨4, gu, pm0, av, adv, rc, dry, empty, gen⟩ s n1 n2 = (⟨0, gu, ⟨1, peekV s (-2), 0, true⟩, av, adv, rc, true, (s.load th (-2)).clock, gen⟩, s.load th (-2)) := by
      show tk4 ⟨4, gu, pm0, av, adv, rc, dry, empty, gen⟩ (popS F th pm0 s) = _
      rw [pop_none0 h.top]
      unfold tk4
      simp only [h.top, if_true, Bool.true_eq_false, if_false]
    rw [et] at hw ⊢
    exact ⟨⟨hw, h.ok.load _ _, by rw [peekV_load]; exact h.top, fun n hn => by rw [peekV_load]; exact h.lg n hn, by show 0 ≤ 4; decide, fun e => by simp at e, fun e => by simp at e, fun _ => ⟨h.top, rfl, rfl⟩⟩, fun _ => Or.inl rfl⟩
theorem mu_pos {F : Nat → Int} {T L P N : Nat} {th : Int} {x : TkM} {s : MSt} (h : NN F T L th P N x s) (hp : x.part ≠ 0) : 1 ≤ mu T L x := by
  have hx := h.wf
  have h4 := h.p
  have hcs : x.part = 1 ∨ x.part = 2 ∨ x.part = 3 ∨ x.part = 4 := by omega
  obtain ⟨part, gu, pop, av, adv, rc, dry, empty, gen⟩ := x
  simp only at hcs
  rcases hcs with rfl | rfl | rfl | rfl
  · show 1 ≤ 10 + (L : Int) + (T : Int)
    omega
  · obtain ⟨ga, a, gr, e1, e2, haw, had, e3⟩ := hx.p2 rfl
    simp only at e1
    subst e1
    have hak := haw.asked
    show 1 ≤ (L : Int) + 5 + (if a.ld = true then (T : Int) - a.asked else (T : Int) + 1)
    split <;> omega
  · obtain ⟨gr, r, e1, hrw, hrd, e2⟩ := hx.p3 rfl
    simp only at e1
    subst e1
    have hpl := hrw.wf.place
    show 1 ≤ 2 + (if r.part = 0 then (L : Int) + 1 else (L : Int) - r.place)
    split <;> omega
  · show (1 : Int) ≤ 1
    omega
theorem NN.start {F : Nat → Int} {T L P N : Nat} {th : Int} {gu : Nat} {s : MSt} (ok : MOk P N s) (top : toN (peekV s (-2)) = -1) (lg : ∀ n : Nat, n < L → peekV s (logN F th n) = 0) : NN F T L th P N ⟨1, gu, pm0, none, none, none, false, 0, 0⟩ s :=
  ⟨tkNew_wf, ok, top, lg, by show 1 ≤ 4; decide, fun _ => rfl, fun e => absurd e (by show ¬ (1 : Nat) = 3; decide), fun e => absurd e (by show ¬ (1 : Nat) = 0; decide)⟩
end
end TA
end Go.Proofs.YtbicloceaddinaaGreat


/- Layer 12: a ground of which all slots are free. Conditions: those that each theorem names. -/
namespace Go.Proofs.YtbicloceaddinaaGreat
open Go.ChangeShapes Go.WideShapes Go.ChangeAt Go.RowKit
set_option linter.unusedVariables false
theorem PutsAt.far {w w' : World} {A : Option Addr} {ys : List Put} {g : Nat} {t : TypeId} {cs : List Value} (h : PutsAt w A ys) (hb : Blk w g t cs) (hn : ∀ (j : Nat) (x : Int), cs[j]? ≠ some (.int .u64 x)) (f : Fr (fun b => b = g) w w') : PutsAt w' A ys := fun h0 => by
  obtain ⟨ad, rfl, hlt, hc⟩ := h h0
  have hne : ad.block ≠ g := fun e => by
    obtain ⟨⟨_, c1⟩, _⟩ := hc 0 h0
    have e2 : (ad.add (0 * 2)).block = g := by rw [add_block]; exact e
    rw [e2, hb.cell] at c1
    exact hn _ _ c1
  refine ⟨ad, rfl, Nat.lt_of_lt_of_le hlt f.size, fun i hi => ?_⟩
  obtain ⟨⟨c0, c1⟩, hx⟩ := hc i hi
  have hk : w'.heap[(ad.add (i * 2)).block]? = w.heap[(ad.add (i * 2)).block]? := by
    rw [add_block]
    exact f.block _ hlt hne
  exact ⟨⟨(World.cell?_of_block hk).trans c0, (World.cell?_of_block (a := ⟨(ad.add (i * 2)).block, (ad.add (i * 2)).off + 1, none⟩) hk).trans c1⟩, hx⟩
theorem zeros_no (j : Nat) (x : Int) : ([.int .i64 0, .int .i64 0, .int .i64 0, .int .i64 0, .slice none 0 0] : List Value)[j]? ≠ some (.int .u64 x) := by
  intro h
  have hj : j = 0 ∨ j = 1 ∨ j = 2 ∨ j = 3 ∨ j = 4 ∨ 5 ≤ j := by omega
  rcases hj with rfl | rfl | rfl | rfl | rfl | hj
  · cases h
  · cases h
  · cases h
  · cases h
  · cases h
  · rw [List.getElem?_eq_none (by simpa using hj)] at h
    cases h
theorem row_at12 {w : World} {B : Nat} {v : Value} {zs : List Int} (h : Row w B 3 .i64 v zs) : ∃ A c, v = .slice A zs.length c ∧ Ints w .i64 A zs := by
  obtain ⟨A, c, e, h1, h2, hI, _, _⟩ := RowN.form (RowN.of_row h) (by decide)
  exact ⟨A, c, e, hI⟩
def AllPost (w : World) (t s l b : Nat) (e : Ending) (w' : World) : Prop := ∃ (A : Option Addr) (c : Nat), e = .returned (.agg #[.int .i64 t, .int .i64 s, .int .i64 l, .int .i64 b, .slice A s c]) ∧ PutsAt w' A (rowPs (layF t s l b) (upN s) s) ∧ Ext w w'
set_option maxRecDepth 100000 in
set_option maxHeartbeats 8000000 in
theorem all_ok (w : World) (t s l b : Nat) (hg : GrOk t s l b) :
    Calls Tryz.prog 88 #[.agg #[.int .i64 t, .int .i64 s, .int .i64 l, .int .i64 b]] w (AllPost w t s l b) := by
  have X0 := Lib.hid (((Ext.refl w).alloc (.cells #[.int .i64 t, .int .i64 s, .int .i64 l, .int .i64 b] 23)).alloc (.cells #[.int .i64 0, .int .i64 0, .int .i64 0, .int .i64 0, .slice none 0 0] 26))
  have B0 := Lib.hid ((Blk.new w 23 [.int .i64 t, .int .i64 s, .int .i64 l, .int .i64 b]).ext ((Ext.refl (w.alloc (.cells #[.int .i64 t, .int .i64 s, .int .i64 l, .int .i64 b] 23))).alloc (.cells #[.int .i64 0, .int .i64 0, .int .i64 0, .int .i64 0, .slice none 0 0] 26)))
  have G0 : Hid (Blk ((w.alloc (.cells #[.int .i64 t, .int .i64 s, .int .i64 l, .int .i64 b] 23)).alloc (.cells #[.int .i64 0, .int .i64 0, .int .i64 0, .int .i64 0, .slice none 0 0] 26)) (w.heap.size + 1) 26 [.int .i64 0, .int .i64 0, .int .i64 0, .int .i64 0, .slice none 0 0]) := Lib.hid (by have := Blk.new (w.alloc (.cells #[.int .i64 t, .int .i64 s, .int .i64 l, .int .i64 b] 23)) 26 [.int .i64 0, .int .i64 0, .int .i64 0, .int .i64 0, .slice none 0 0]; simp only [World.size_alloc] at this; exact this)
  obtain ⟨hc, h1, h2, h3, h4⟩ := id hg
  obtain ⟨⟨q0, q1⟩, ⟨q2, q3⟩, ⟨q4, q5⟩, q6, q7⟩ := id hc
  have HOk := Lib.hid (okayF hc)
  have HCf : Hid (CfgN t s l b) := Lib.hid ⟨by omega, by omega, by omega, by omega, by omega⟩
  have s30 : s ≤ 30 := by omega
  clear hg hc h1 h2 h3 h4 q0 q1 q2 q3 q4 q5 q6 q7
  go_enter Tryz.func88, Tryz.ntmps88
  go_upto_region 1 with fail
  generalize (w.alloc (.cells #[.int .i64 t, .int .i64 s, .int .i64 l, .int .i64 b] 23)).alloc (.cells #[.int .i64 0, .int .i64 0, .int .i64 0, .int .i64 0, .slice none 0 0] 26) = W0 at *
  go_wp2_with fail
  go_loopw [3, 4] (fun v i wr => ∃ (k : Nat) (vv : Value), k ≤ s ∧ i = .int .i64 k ∧ vv = v ∧ Row wr w.heap.size 3 .i64 vv (upN k) ∧ Ext w wr ∧ Blk wr w.heap.size 23 [.int .i64 t, .int .i64 s, .int .i64 l, .int .i64 b] ∧ Blk wr (w.heap.size + 1) 26 [.int .i64 0, .int .i64 0, .int .i64 0, .int .i64 0, .slice none 0 0] ∧ vv.ownBlock ≠ some w.heap.size ∧ vv.ownBlock ≠ some (w.heap.size + 1)) (fun _ i _ => s - (intOf i).toNat)
  case atStart => exact ⟨0, _, Nat.zero_le _, rfl, rfl, Row.nil _ _ _ _, X0.out, B0.out, G0.out, by simp [Value.ownBlock], by simp [Value.ownBlock]⟩
  case round =>
    obtain ⟨k, vv, hk, rfl, rfl, row, xk, bk, gk, ob, og⟩ := hrel
    have RW := Lib.hid row
    have XK := Lib.hid xk
    have BK := Lib.hid bk
    have GK := Lib.hid gk
    have OB := Lib.hid ob
    have OG := Lib.hid og
    clear row xk bk gk ob og X0 B0 G0
    have y0 : wr.cell? ⟨w.heap.size, 0, none⟩ = some (.int .i64 t) := BK.out.cell 0
    have y1 : wr.cell? ⟨w.heap.size, 1, none⟩ = some (.int .i64 s) := BK.out.cell 1
    have y2 : wr.cell? ⟨w.heap.size, 2, none⟩ = some (.int .i64 l) := BK.out.cell 2
    have y3 : wr.cell? ⟨w.heap.size, 3, none⟩ = some (.int .i64 b) := BK.out.cell 3
    by_cases hlt : k < s
    · have d1 : decide ((k : Int) < (s : Int)) = true := by simp; omega
      have d1' : decide (k < s) = true := by simp; omega
      have d3 : decide ((k : Int) < 30) = true := by simp; omega
      have d3' : decide (k < 30) = true := by simp; omega
      have hbl := BK.out.lt
      have hgl := GK.out.lt
      have HL : Hid ((upN k).length < 1000000000) := Lib.hid (by rw [upN_len]; omega)
      go_wp2_with ((at_builtin; refine Hid.out ?_))
      refine Lib.hid ?_
      refine wpList_pushOff rfl _ _ 93 rfl 3 .i64 8 int_info (by decide) Tryz.underlying93 w wr vv (upN k) (k : Int) (by rfl) RW.out XK.out (by rfl) HL.out ?_
      intro v' w5 h1 h2 h3
      have R5 := Lib.hid h1
      have X5 := Lib.hid h2
      obtain ⟨a1, a2⟩ := h3 w.heap.size hbl OB.out
      obtain ⟨a3, a4⟩ := h3 (w.heap.size + 1) hgl OG.out
      have B5 := Lib.hid (show Blk w5 w.heap.size 23 [.int .i64 t, .int .i64 s, .int .i64 l, .int .i64 b] from a1.trans BK.out)
      have G5 := Lib.hid (show Blk w5 (w.heap.size + 1) 26 [.int .i64 0, .int .i64 0, .int .i64 0, .int .i64 0, .slice none 0 0] from a3.trans GK.out)
      have O5 := Lib.hid a2
      have P5 := Lib.hid a4
      rw [← upN_succ] at R5
      clear h1 h2 h3 a1 a2 a3 a4 y0 y1 y2 y3
      go_wp2_with fail
      go_roundw
      case rel => exact ⟨k + 1, v', by omega, by go_num, rfl, R5.out, X5.out, B5.out, G5.out, O5.out, P5.out⟩
      case measure => simp [intOf]; omega
    · obtain rfl : k = s := by omega
      have d1 : decide ((k : Int) < (k : Int)) = false := by simp
      have d1' : decide (k < k) = false := by simp
      obtain ⟨Av, cv, hv, hIv⟩ := row_at12 RW.out
      rw [upN_len] at hv
      subst hv
      have HRo := Lib.hid (rows_ok HCf.out HOk.out wr Av k cv (upN k) (upN_len k) (by omega) hIv (fun i hi => by rw [upN_at hi]; omega))
      clear hIv RW OB OG
      go_wp2_with fail
      refine HRo.out.mono ?_
      rintro e w3 ⟨A3, c3, rfl, hp, x3⟩
      rw [rowPs_len]
      have HP := Lib.hid hp
      have X3 := Lib.hid (XK.out.trans x3)
      have G3 := Lib.hid (GK.out.ext x3)
      clear hp x3 HRo y0 y1 y2 y3
      have d0 : w3.cell? ⟨w.heap.size + 1, 0, none⟩ = some (.int .i64 0) := G3.out.cell 0
      have d1 : w3.cell? ⟨w.heap.size + 1, 1, none⟩ = some (.int .i64 0) := G3.out.cell 1
      have d2 : w3.cell? ⟨w.heap.size + 1, 2, none⟩ = some (.int .i64 0) := G3.out.cell 2
      have d3 : w3.cell? ⟨w.heap.size + 1, 3, none⟩ = some (.int .i64 0) := G3.out.cell 3
      have d4 : w3.cell? ⟨w.heap.size + 1, 4, none⟩ = some (.slice none 0 0) := G3.out.cell 4
      have f0 : w3.frozen? ⟨w.heap.size + 1, 0, none⟩ = false := G3.out.frozen 0
      have f1 : w3.frozen? ⟨w.heap.size + 1, 1, none⟩ = false := G3.out.frozen 1
      have f2 : w3.frozen? ⟨w.heap.size + 1, 2, none⟩ = false := G3.out.frozen 2
      have f3 : w3.frozen? ⟨w.heap.size + 1, 3, none⟩ = false := G3.out.frozen 3
      have f4 : w3.frozen? ⟨w.heap.size + 1, 4, none⟩ = false := G3.out.frozen 4
      have fr : Fr (fun b => b = w.heap.size + 1) w3 (((((w3.setCell ⟨w.heap.size + 1, 0, none⟩ (.int .i64 t)).setCell ⟨w.heap.size + 1, 1, none⟩ (.int .i64 k)).setCell ⟨w.heap.size + 1, 2, none⟩ (.int .i64 l)).setCell ⟨w.heap.size + 1, 3, none⟩ (.int .i64 b)).setCell ⟨w.heap.size + 1, 4, none⟩ (.slice A3 k c3)) := ((((Fr.setCell (S := fun b => b = w.heap.size + 1) (p := ⟨w.heap.size + 1, 0, none⟩) (Fr.refl _ w3) (Or.inl rfl) _).setCell (p := ⟨w.heap.size + 1, 1, none⟩) (Or.inl rfl) _).setCell (p := ⟨w.heap.size + 1, 2, none⟩) (Or.inl rfl) _).setCell (p := ⟨w.heap.size + 1, 3, none⟩) (Or.inl rfl) _).setCell (p := ⟨w.heap.size + 1, 4, none⟩) (Or.inl rfl) _
      have X7 := Lib.hid (((((X3.out.setCell (p := ⟨w.heap.size + 1, 0, none⟩) (by show w.heap.size ≤ w.heap.size + 1; omega) (.int .i64 t)).setCell (p := ⟨w.heap.size + 1, 1, none⟩) (by show w.heap.size ≤ w.heap.size + 1; omega) (.int .i64 k)).setCell (p := ⟨w.heap.size + 1, 2, none⟩) (by show w.heap.size ≤ w.heap.size + 1; omega) (.int .i64 l)).setCell (p := ⟨w.heap.size + 1, 3, none⟩) (by show w.heap.size ≤ w.heap.size + 1; omega) (.int .i64 b)).setCell (p := ⟨w.heap.size + 1, 4, none⟩) (by show w.heap.size ≤ w.heap.size + 1; omega) (.slice A3 k c3))
      have B7 := Lib.hid (((((G3.out.set 0 (.int .i64 t)).set 1 (.int .i64 k)).set 2 (.int .i64 l)).set 3 (.int .i64 b)).set 4 (.slice A3 k c3))
      have P7 : Hid (PutsAt (((((w3.setCell ⟨w.heap.size + 1, 0, none⟩ (.int .i64 t)).setCell ⟨w.heap.size + 1, 1, none⟩ (.int .i64 k)).setCell ⟨w.heap.size + 1, 2, none⟩ (.int .i64 l)).setCell ⟨w.heap.size + 1, 3, none⟩ (.int .i64 b)).setCell ⟨w.heap.size + 1, 4, none⟩ (.slice A3 k c3)) A3 (rowPs (layF t k l b) (upN k) k)) := Lib.hid (HP.out.far G3.out zeros_no fr)
      clear fr
      go_wp2_with fail
      generalize (((((w3.setCell ⟨w.heap.size + 1, 0, none⟩ (.int .i64 t)).setCell ⟨w.heap.size + 1, 1, none⟩ (.int .i64 k)).setCell ⟨w.heap.size + 1, 2, none⟩ (.int .i64 l)).setCell ⟨w.heap.size + 1, 3, none⟩ (.int .i64 b)).setCell ⟨w.heap.size + 1, 4, none⟩ (.slice A3 k c3)) = W7 at *
      have q0 : W7.cell? ⟨w.heap.size + 1, 0, none⟩ = some (.int .i64 t) := B7.out.cell 0
      have q1 : W7.cell? ⟨w.heap.size + 1, 1, none⟩ = some (.int .i64 k) := B7.out.cell 1
      have q2 : W7.cell? ⟨w.heap.size + 1, 2, none⟩ = some (.int .i64 l) := B7.out.cell 2
      have q3 : W7.cell? ⟨w.heap.size + 1, 3, none⟩ = some (.int .i64 b) := B7.out.cell 3
      have q4 : W7.cell? ⟨w.heap.size + 1, 4, none⟩ = some (.slice A3 k c3) := B7.out.cell 4
      exact bodyPost_ret (v := .agg #[.int .i64 t, .int .i64 k, .int .i64 l, .int .i64 b, .slice A3 k c3]) (by simp [results, Tryz.results88, go_sem, q0, q1, q2, q3, q4]) rfl ⟨A3, c3, rfl, P7.out, X7.out⟩
end Go.Proofs.YtbicloceaddinaaGreat


/- Layer 12: what a Take tells, from its state; its beginning; the page's example. Conditions: those that each theorem names. -/
namespace Go.Proofs.YtbicloceaddinaaGreat
open Go.ChangeShapes Go.WideShapes Go.ChangeAt Go.RowKit
set_option linter.unusedVariables false
section
variable {F : Nat → Int} {t : Int} {s : MSt} {P N T n1 n2 : Nat}
theorem popS_mok {y : PMs} (h : MOk P N s) : MOk P N (popS F t y s).2 := by
  unfold popS
  repeat' split
  · exact h
  · exact h.load _ _
  · exact h.load _ _
  · exact h.swap _ _ _ _
theorem pushS_mok {y : PMs} (h : MOk P N s) : MOk P N (pushS F t y s).2 := by
  unfold pushS
  repeat' split
  · exact h
  · exact h.load _ _
  · exact h.store _ _ _
  · exact h.swap _ _ _ _
theorem advS_mok {y : AMs} (h : MOk P N s) : MOk P N (advS F T t y s).2 := by
  unfold advS
  repeat' split
  · exact h
  · exact h.load _ _
  · exact h.load _ _
  · exact h.swap _ _ _ _
theorem rcS_mok {g : Nat} {y : RcM} (h : MOk P N s) : MOk P N (rcS F t y s g).2 := by
  unfold rcS
  split
  · exact h
  split
  · exact h.load _ _
  split
  · exact h.load _ _
  split
  · exact h.store _ _ _
  split
  · exact h
  · exact pushS_mok h
theorem tkS_mok {x : TkM} (h : MOk P N s) : MOk P N (tkS F T t x s n1 n2).2 := by
  unfold tkS
  split
  · exact h
  · exact popS_mok h
  · split
    · exact h
    · exact advS_mok h
  · split
    · exact h
    · exact rcS_mok h
  · exact popS_mok h
  · exact h.store _ _ _
  · exact h.flush _ _
  · exact h.fence _
  · exact h.load _ _
  · exact h.store _ _ _
end
def TkM.holds (x : TkM) : Int := if (if x.pop.dn = true then toN x.pop.top else -1) = -1 then (match x.rc with | none => -1 | some q => q.2.tells) else (if x.pop.dn = true then toN x.pop.top else -1)
section
variable {Q : Nat → Prop} {w0 w : World} {gm gt gl gu : Nat} {dv pv : Value} {s : MSt} {F : Nat → Int} {t : Int} {x : TkM} {T L : Nat}
theorem TkAt.start {Q1 : Nat → Prop} (h : IsMem Q1 w w0 w gm dv pv s) (hQ : ∀ b, Q b ∨ b = gu → Q1 b) (hb : Blk w gt 149 (tkCells gl gu gt t (tkF 91 gt) (.pointer none) (.pointer none) false 0 0)) (hu : Blk w gu 217 (fcells gl t 0 0 false 0)) (nq : ¬ Q gu) (p0 : w0.heap.size ≤ gu) : TkAt Q w0 w gm gt gl dv pv t ⟨1, gu, pm0, none, none, none, false, 0, 0⟩ s :=
  ⟨h.reQ (fun b hb => hQ b (hb.imp id (fun ho => by
    rcases ho with e | ⟨q, e, _⟩ | ⟨q, e, _⟩
    · exact e
    · cases e
    · cases e))), hb, ⟨⟨nq, p0⟩, hu⟩, (fun q e => by cases e), (fun q e => by cases e), (fun q p e => by cases e)⟩
theorem tkDone_ok (h : TkAt Q w0 w gm gt gl dv pv t x s) (hx : x.part ≤ 9) : Calls Tryz.prog 21 #[.pointer (some ⟨gt, 0, none⟩)] w fun e w' => e = .returned (.bool (decide (x.part = 0))) ∧ w = w' := by
  have c2 : w.cell? ⟨gt, 2, none⟩ = some (nxOf x.part gt) := h.blk.cell 2
  rcases nil_or (gt := gt) hx with ⟨e, e2⟩ | ⟨n', e, e2⟩
  · rw [e] at c2
    rw [e2]
    exact takeDone_yes w gt c2
  · rw [e] at c2
    rw [e2]
    exact takeDone_no w gt n' c2
theorem tkSlot_ok (h : TkAt Q w0 w gm gt gl dv pv t x s) (hx : x.Wf T L) : Calls Tryz.prog 22 #[.pointer (some ⟨gt, 0, none⟩)] w fun e w' => e = .returned (.int .i64 (if x.part = 0 then toN x.pop.top else -1)) ∧ Ext w w' := by
  have c2 : w.cell? ⟨gt, 2, none⟩ = some (nxOf x.part gt) := h.blk.cell 2
  by_cases hp : x.part = 0
  · rw [hp] at c2
    rw [if_pos hp]
    have hs := popSlot_ok w x.gu x.pop.top x.pop.dn hx.pop.top (h.pop.2.cell 3) (h.pop.2.cell 4)
    rw [if_pos (hx.p0 hp)] at hs
    exact takeSlot_yes w gt x.gu _ c2 (h.blk.cell 3) hs
  · rw [if_neg hp]
    rcases nil_or (gt := gt) hx.part with ⟨_, e2⟩ | ⟨n', e, e2⟩
    · exact absurd (of_decide_eq_true e2) hp
    · rw [e] at c2
      exact takeSlot_no w gt n' c2
theorem tkHolds_ok (h : TkAt Q w0 w gm gt gl dv pv t x s) (hx : x.Wf T L) : Calls Tryz.prog 23 #[.pointer (some ⟨gt, 0, none⟩)] w fun e w' => e = .returned (.int .i64 x.holds) ∧ Ext w w' := by
  have hs := popSlot_ok w x.gu x.pop.top x.pop.dn hx.pop.top (h.pop.2.cell 3) (h.pop.2.cell 4)
  refine takeHolds_ok w gt x.gu (.pointer x.rcp) _ _ (h.blk.cell 3) (h.blk.cell 5) hs (fun W xw => ?_)
  unfold TkM.rcp
  cases hr : x.rc with
  | none => exact (holds_nil W).mono (by rintro e w' ⟨rfl, rfl⟩; exact ⟨rfl, Ext.refl _⟩)
  | some q => exact (holds_ok W q.1 gl q.2 t ((h.rc q hr).2.ext xw)).mono (by rintro e w' ⟨rfl, rfl⟩; exact ⟨rfl, Ext.refl _⟩)
theorem tkEmpty_ok (h : TkAt Q w0 w gm gt gl dv pv t x s) : Calls Tryz.prog 25 #[.pointer (some ⟨gt, 0, none⟩)] w fun e w' => e = .returned (.int .i64 (if x.dry = true then x.empty else -1)) ∧ w = w' :=
  takeEmpty_ok w gt x.dry x.empty (h.blk.cell 6) (h.blk.cell 7)
end
theorem r12at_ok {t s l b : Nat} (c : CfgN t s l b) (n : Int) (w : World) :
    Calls Tryz.prog 92 #[.agg #[.int .i64 t, .int .i64 s, .int .i64 l, .int .i64 b], .int .i64 7, .int .i64 n] w fun e w' => e = .returned (.int .i64 (intN (layF t s l b) n)) ∧ Ext w w' := by
  have HA := Lib.hid (fun W => at_any t s l b 7 n 0 W c.t1 c.s1 c.s0 c.l1 c.b1 (by decide) (by decide) (fun _ => rfl) (fun h => by omega))
  have e1 : toldF (layF t s l b) 7 n 0 = intN (layF t s l b) n := rfl
  rw [e1] at HA
  have X0 := Lib.hid ((Ext.refl w).alloc (.cells #[.int .i64 t, .int .i64 s, .int .i64 l, .int .i64 b] 23))
  generalize intN (layF t s l b) n = a at *
  clear e1 c
  go_enter Tryz.func92, Tryz.ntmps92
  go_wp2_with fail
  refine (HA.out _).mono ?_
  rintro e w1 ⟨rfl, x1⟩
  have X1 := Lib.hid (X0.out.trans x1)
  clear x1
  go_wp2_with fail
  go_ret
  exact ⟨rfl, X1.out⟩
theorem gr1 : GrOk ((1 : Nat) : Int) ((1 : Nat) : Int) ((1 : Nat) : Int) ((1 : Nat) : Int) := ⟨⟨by decide, by decide, by decide, by decide⟩, by decide, by decide, by decide, by decide⟩
def st12 : MSt := groundSt 1 1 1 1 (rowPs (layF ((1 : Nat) : Int) ((1 : Nat) : Int) ((1 : Nat) : Int) ((1 : Nat) : Int)) (upN 1) 1)
def F12 : Nat → Int := layF ((1 : Nat) : Int) ((1 : Nat) : Int) ((1 : Nat) : Int) ((1 : Nat) : Int)
theorem clk12 : st12.clock = 1 ∧ (TA.s8 F12 0 st12).clock = 9 := by decide +kernel
theorem top12 : toN (peekV st12 (-2)) = 0 := by decide +kernel
theorem advS_peek {F : Nat → Int} {T P N : Nat} {t a : Int} {y : AMs} {s : MSt} (h : MOk P N s) (hP : 0 < P) (ha : a ≠ -1) : peekV (advS F T t y s).2 a = peekV s a := by
  unfold advS
  repeat' split
  · rfl
  · exact peekV_load _ _ _ _
  · exact peekV_load _ _ _ _
  · show peekV (s.swap t (-1) y.ep (next64 y.ep)) a = _
    rw [peekV_swap h (h.is (by omega) (by omega)), if_neg (fun e => ha e.1)]
theorem NN_peek {F : Nat → Int} {T L P N : Nat} {th a : Int} {x : TkM} {s : MSt} (h : TA.NN F T L th P N x s) (hP : 0 < P) (ha : a ≠ -1) (n1 n2 : Nat) : peekV (tkS F T th x s n1 n2).2 a = peekV s a := by
  have hx := h.wf
  have h4 := h.p
  have hcs : x.part = 0 ∨ x.part = 1 ∨ x.part = 2 ∨ x.part = 3 ∨ x.part = 4 := by omega
  obtain ⟨part, gu, pop, av, adv, rc, dry, empty, gen⟩ := x
  simp only at hcs
  rcases hcs with rfl | rfl | rfl | rfl | rfl
  · rfl
  · have e3 : pop = pm0 := h.p1 (Or.inl rfl)
    show peekV (popS F th pop s).2 a = _
    rw [e3, TA.pop_none0 h.top]
    exact peekV_load _ _ _ _
  · obtain ⟨ga, y, gr, e1, _⟩ := hx.p2 rfl
    simp only at e1
    subst e1
    exact advS_peek h.ok hP ha
  · obtain ⟨gr, r, e1, _, hrd, _⟩ := hx.p3 rfl
    simp only at e1
    subst e1
    have hrp := h.p3 rfl (gr, r) rfl
    obtain ⟨dn, rpart, ep, place, sl, push, ct⟩ := r
    simp only at hrp hrd
    subst hrd
    rcases hrp with rfl | rfl
    · exact peekV_load _ _ _ _
    · exact peekV_load _ _ _ _
  · have e3 : pop = pm0 := h.p1 (Or.inr rfl)
    show peekV (popS F th pop s).2 a = _
    rw [e3, TA.pop_none0 h.top]
    exact peekV_load _ _ _ _
theorem AllPost.lit {w : World} (h : Calls Tryz.prog 88 #[.agg #[.int .i64 ((1 : Nat) : Int), .int .i64 ((1 : Nat) : Int), .int .i64 ((1 : Nat) : Int), .int .i64 ((1 : Nat) : Int)]] w (AllPost w 1 1 1 1)) : Calls Tryz.prog 88 #[.agg #[.int .i64 1, .int .i64 1, .int .i64 1, .int .i64 1]] w fun e w' => ∃ A c, e = .returned (.agg #[.int .i64 1, .int .i64 1, .int .i64 1, .int .i64 1, .slice A 1 c]) ∧ PutsAt w' A (rowPs F12 (upN 1) 1) ∧ Ext w w' := h
set_option maxRecDepth 100000 in
set_option maxHeartbeats 8000000 in
theorem awake12_ok (w : World) : Calls Tryz.prog 16 #[] w fun e w' => e = .returned (.bool true) ∧ Ext w w' := by
  have HAl := Lib.hid (AllPost.lit (all_ok w 1 1 1 1 gr1))
  have HLa : Hid (∀ W A c, PutsAt W A (rowPs F12 (upN 1) 1) → Calls Tryz.prog 7 #[.agg #[.int .i64 1, .int .i64 1, .int .i64 1, .int .i64 1, .slice A 1 c]] W (GrNew W 1 1 1 1 (rowPs F12 (upN 1) 1))) := Lib.hid (fun W A c h => lay_ok W A 1 c 1 1 1 1 (rowPs F12 (upN 1) 1) gr1 (rowPs_len _ _ _) (by decide) h)
  have HAA : Hid (TA.AA 1 1 1 1 0 0 st12) := Lib.hid (TA.AA.start (by decide) (by decide) (by decide) (by decide) (by decide) (by decide))
  have HFi : Hid (Fine 0 st12.dev) := Lib.hid (ground_fine 1 1 1 1 _)
  have HCa : Hid (CalmN 100 st12) := Lib.hid (ground_calm 1 1 1 1 _ (by rw [rowPs_len]; decide))
  have HOk : Hid (Okay F12) := Lib.hid (okayF gr1.1)
  go_enter Tryz.func16, Tryz.ntmps16
  go_wp2_with fail
  refine HAl.out.mono ?_
  rintro e w1 ⟨A, c, rfl, hp, x1⟩
  have HLa1 := Lib.hid (HLa.out w1 A c hp)
  have X1 := Lib.hid x1
  have HX1 := Lib.hid x1
  clear hp x1 HAl HLa
  go_wp2_with fail
  refine HLa1.out.mono ?_
  rintro e w2 ⟨gl, gm, dv, pv, g, R, rv, rfl, bl, gr⟩
  have BL := Lib.hid bl
  have GR := Lib.hid gr
  clear bl gr HLa1
  go_wp2_with fail
  refine (newTake_ok w2 gl 0).mono ?_
  rintro e w3 ⟨ga, gua, rfl, l1, l2, ba, bua, x3⟩
  have BA := Lib.hid ba
  have BUA := Lib.hid bua
  have X3 := Lib.hid x3
  have LA := Lib.hid (And.intro l1 l2)
  clear ba bua x3 l1 l2
  go_wp2_with fail
  refine (newTake_ok w3 gl 0).mono ?_
  rintro e w4 ⟨gb, gub, rfl, l1, l2, bb, bub, x4⟩
  have LB := Lib.hid (And.intro l1 l2)
  have hsz : w1.heap.size ≤ w2.heap.size ∧ w2.heap.size ≤ w3.heap.size := ⟨GR.out.mem.lt.1.size, X3.out.size⟩
  have HN : Hid ((gl < w2.heap.size ∧ w1.heap.size ≤ w2.heap.size ∧ w2.heap.size ≤ gua) ∧ gua < ga ∧ ga < gub ∧ gub < gb) := Lib.hid ⟨⟨BL.out.lt, hsz.1, LA.out.1⟩, LA.out.2, Nat.lt_of_lt_of_le BA.out.lt LB.out.1, LB.out.2⟩
  have M4 : Hid (IsMem (fun q => q = gl ∨ q = ga ∨ q = gua ∨ q = gb ∨ q = gub) w4 w1 w4 gm dv pv st12) := Lib.hid (GR.out.mem.hold (X3.out.trans x4) (fun b hb => by
    have h1 := (X3.out.trans x4).size
    rcases hb with e | e | e | e | e
    · rw [e]; exact ⟨Nat.lt_of_lt_of_le BL.out.lt h1, Or.inl (Or.inr rfl)⟩
    · rw [e]; exact ⟨(BA.out.ext x4).lt, Or.inr (by have := HN.out; omega)⟩
    · rw [e]; exact ⟨(BUA.out.ext x4).lt, Or.inr (by have := HN.out; omega)⟩
    · rw [e]; exact ⟨bb.lt, Or.inr (by have := HN.out; omega)⟩
    · rw [e]; exact ⟨bub.lt, Or.inr (by have := HN.out; omega)⟩))
  have BL4 : Hid (Blk w4 gl 173 (cellsF F12)) := Lib.hid (BL.out.ext (X3.out.trans x4))
  have TA4 : Hid (TkAt (fun q => q = gl ∨ q = ga ∨ q = gb ∨ q = gub) w1 w4 gm ga gl dv pv 0 (TA.run F12 0 gua st12 0).1 (TA.run F12 0 gua st12 0).2) := Lib.hid (TkAt.start M4.out (fun b hb => by
    rcases hb with (e | e | e | e) | e
    · exact Or.inl e
    · exact Or.inr (Or.inl e)
    · exact Or.inr (Or.inr (Or.inr (Or.inl e)))
    · exact Or.inr (Or.inr (Or.inr (Or.inr e)))
    · exact Or.inr (Or.inr (Or.inl e))) (BA.out.ext x4) (BUA.out.ext x4) (by have := HN.out; omega) (by have := HN.out; omega))
  have BB4 := Lib.hid bb
  have BUB4 := Lib.hid bub
  have HCk : Hid (Calls Tryz.prog 77 #[.pointer (some ⟨gm, 0, none⟩)] w4 fun e w' => e = .returned (.int .i64 1) ∧ w4 = w') := Lib.hid (by rw [← clk12.1]; exact memClock_ok M4.out)
  have HU := Lib.hid M4.out.peekU
  have XX4 := Lib.hid ((X1.out.trans GR.out.mem.lt.1).trans (X3.out.trans x4))
  clear bb bub x4 hsz BL GR BA BUA X3 LA LB M4 X1
  go_wp2_with fail
  refine HCk.out.mono ?_
  rintro e w' ⟨rfl, rfl⟩
  go_wp2_with fail
  go_loopw [8] (fun i wr => ∃ k : Nat, k ≤ 30 ∧ i = .int .i64 k ∧ TkAt (fun q => q = gl ∨ q = ga ∨ q = gb ∨ q = gub) w1 wr gm ga gl dv pv 0 (TA.run F12 0 gua st12 k).1 (TA.run F12 0 gua st12 k).2 ∧ ((TA.run F12 0 gua st12 k).1.Wf 1 1 ∧ MOk 4 9 (TA.run F12 0 gua st12 k).2 ∧ Fine k (TA.run F12 0 gua st12 k).2.dev ∧ CalmN (100 + (k : Int)) (TA.run F12 0 gua st12 k).2) ∧ Blk wr gl 173 (cellsF F12) ∧ Blk wr gb 149 (tkCells gl gub gb 0 (tkF 91 gb) (.pointer none) (.pointer none) false 0 0) ∧ Blk wr gub 217 (fcells gl 0 0 0 false 0)) (fun i _ => 30 - (intOf i).toNat)
  case atStart => exact ⟨0, by omega, rfl, TA4.out, ⟨tkNew_wf, HAA.out.ok.ok, HFi.out, by show CalmN (100 + ((0 : Nat) : Int)) st12; simpa using HCa.out⟩, BL4.out, BB4.out, BUB4.out⟩
  case round =>
    obtain ⟨k, hk, rfl, tk, st, lk, bk, uk⟩ := hrel
    have TK := Lib.hid tk
    have SK := Lib.hid st
    have LK := Lib.hid lk
    have BK := Lib.hid bk
    have UK := Lib.hid uk
    clear tk st lk bk uk TA4 BL4 BB4 BUB4
    by_cases hlt : k < 30
    · have v1 : decide (k < 30) = true := by simp; omega
      have v2 : decide ((k : Int) < 30) = true := by simp; omega
      have hst := takeStep_ok (L := 1) (T := 1) (i := k) (n := 100 + (k : Int)) TK.out (SK.out.2.2.2.calm (by omega)) (by omega) SK.out.2.2.1 HOk.out rfl rfl rfl (by decide) rfl (by decide) (by decide) TK.out.mem.peekU SK.out.2.2.2 SK.out.1 LK.out (Or.inr (Or.inl rfl)) (Or.inl rfl) (by have := HN.out; omega)
      have HSt : Hid (Calls Tryz.prog 19 #[.pointer (some ⟨ga, 0, none⟩), .pointer (some ⟨gm, 0, none⟩)] wr fun e w' => (∃ r, e = .returned (.bool r)) ∧ TkAt (fun q => q = gl ∨ q = ga ∨ q = gb ∨ q = gub) w1 w' gm ga gl dv pv 0 (TA.run F12 0 gua st12 (k + 1)).1 (TA.run F12 0 gua st12 (k + 1)).2 ∧ ∀ b, (b = gl ∨ b = ga ∨ b = gb ∨ b = gub) → b ≠ ga → w'.heap[b]? = wr.heap[b]?) := Lib.hid (hst.mono (by
        rintro e w' ⟨n1, n2, he, ht, hkp⟩
        rw [TA.run_step HAA.out.ok.ok (by decide) (by rw [HAA.out.top]; decide)] at he ht
        exact ⟨⟨_, he⟩, ht, hkp⟩))
      have hnx := tkS_wf (F := F12) (T := 1) (L := 1) (t := 0) (n1 := 0) (n2 := 0) rfl (by decide) TK.out.mem.peekU SK.out.1 SK.out.2.2.2
      have hf := tkS_fine9 (F := F12) (T := 1) (t := 0) (x := (TA.run F12 0 gua st12 k).1) (n1 := 0) (n2 := 0) SK.out.2.2.1 (by rw [SK.out.2.1.n]; decide)
      have hm := tkS_mok (F := F12) (T := 1) (t := 0) (x := (TA.run F12 0 gua st12 k).1) (n1 := 0) (n2 := 0) SK.out.2.1
      rw [TA.run_step HAA.out.ok.ok (by decide) (by rw [HAA.out.top]; decide)] at hnx hf hm
      have SN : Hid ((TA.run F12 0 gua st12 (k + 1)).1.Wf 1 1 ∧ MOk 4 9 (TA.run F12 0 gua st12 (k + 1)).2 ∧ Fine (k + 1) (TA.run F12 0 gua st12 (k + 1)).2.dev ∧ CalmN (100 + ((k + 1 : Nat) : Int)) (TA.run F12 0 gua st12 (k + 1)).2) := Lib.hid ⟨hnx.1, hm, hf, by rw [show (100 : Int) + ((k + 1 : Nat) : Int) = 100 + (k : Int) + 1 by omega]; exact hnx.2⟩
      clear hst hnx hf hm
      go_wp2_with fail
      refine HSt.out.mono ?_
      rintro e w5 ⟨⟨r, rfl⟩, t5, k5⟩
      have T5 := Lib.hid t5
      have K5 := Lib.hid k5
      clear t5 k5 HSt
      go_wp2_with fail
      go_roundw
      case rel => exact ⟨k + 1, by omega, by go_num, T5.out, SN.out, (K5.out gl (Or.inl rfl) (by have := HN.out; omega)).trans LK.out, (K5.out gb (Or.inr (Or.inr (Or.inl rfl))) (by have := HN.out; omega)).trans BK.out, (K5.out gub (Or.inr (Or.inr (Or.inr rfl))) (by have := HN.out; omega)).trans UK.out⟩
      case measure => simp [intOf]; omega
    · have v1 : decide (k < 30) = false := by simp; omega
      have v2 : decide ((k : Int) < 30) = false := by simp; omega
      obtain rfl : k = 30 := by omega
      obtain ⟨ra, rg, rk⟩ := TA.run_end (t := 1) (s := 1) (l := 1) (b := 1) (th := 0) (i := 0) (gu := gua) (st := st12) (by decide) (by decide) (by decide) (by decide) (by decide) (by decide) (by decide) HU.out HAA.out
      have SE : Hid (MOk 4 9 (TA.run F12 0 gua st12 8).2 ∧ Fine 30 (TA.run F12 0 gua st12 8).2.dev ∧ CalmN 130 (TA.run F12 0 gua st12 8).2) := Lib.hid ⟨SK.out.2.1, SK.out.2.2.1, SK.out.2.2.2⟩
      have TE : Hid (TkAt (fun q => q = gl ∨ q = ga ∨ q = gb ∨ q = gub) w1 wr gm ga gl dv pv 0 (TA.run F12 0 gua st12 8).1 (TA.run F12 0 gua st12 8).2) := Lib.hid TK.out
      have HRG : Hid (peekV (TA.run F12 0 gua st12 8).2 (genN F12 0) = 1) := Lib.hid rg
      have HTop : Hid (toN (peekV (TA.run F12 0 gua st12 8).2 (-2)) = -1) := Lib.hid (Eq.trans ra.top (if_neg (by decide)))
      have HLg : Hid (∀ n : Nat, n < 1 → peekV (TA.run F12 0 gua st12 8).2 (logN F12 0 n) = 0) := Lib.hid ra.lg
      have HLp : Hid (∀ n : Nat, n < 1 → 0 ≤ logN F12 0 n) := Lib.hid (fun n hn => by
        have e := TA.log_at (t := 1) (s := 1) (l := 1) (b := 1) (th := 0) (n := n) (by decide) (by decide) (by decide) (by decide) (by decide) hn
        show 0 ≤ logN (layF ((1 : Nat) : Int) ((1 : Nat) : Int) ((1 : Nat) : Int) ((1 : Nat) : Int)) ((0 : Nat) : Int) n
        rw [e]
        omega)
      have HGp : Hid (genN F12 0 ≠ -1) := Lib.hid (by
        have e := TA.gen_at (t := 1) (s := 1) (l := 1) (b := 1) (k := 0) (by decide) (by decide) (by decide) (by decide) (by decide)
        show genN (layF ((1 : Nat) : Int) ((1 : Nat) : Int) ((1 : Nat) : Int) ((1 : Nat) : Int)) ((0 : Nat) : Int) ≠ -1
        rw [e]
        omega)
      have BA8 : Hid (Blk wr ga 149 ((TA.run F12 0 gua st12 8).1.cells gl ga 0)) := Lib.hid TK.out.blk
      have BU8 : Hid (Blk wr gua 217 ((TA.run F12 0 gua st12 8).1.pop.cells gl 0)) := Lib.hid TK.out.pop.2
      have TB8 : Hid (TkAt (fun q => q = gl ∨ q = gb ∨ q = ga ∨ q = gua) w1 wr gm gb gl dv pv 0 ⟨1, gub, pm0, none, none, none, false, 0, 0⟩ (TA.run F12 0 gua st12 8).2) := Lib.hid (TkAt.start TE.out.mem (fun b hb => by
        rcases hb with (e | e | e | e) | e
        · exact Or.inl (Or.inl e)
        · exact Or.inl (Or.inr (Or.inr (Or.inl e)))
        · exact Or.inl (Or.inr (Or.inl e))
        · exact Or.inr (Or.inl e)
        · exact Or.inl (Or.inr (Or.inr (Or.inr e)))) BK.out UK.out (by have := HN.out; omega) (by have := HN.out; omega))
      have HCk2 : Hid (Calls Tryz.prog 77 #[.pointer (some ⟨gm, 0, none⟩)] wr fun e w' => e = .returned (.int .i64 9) ∧ wr = w') := Lib.hid (by
        have h := memClock_ok TE.out.mem
        rw [show (TA.run F12 0 gua st12 8).2.clock = 9 from clk12.2] at h
        exact h)
      have HTA : Hid (toN (TA.run F12 0 gua st12 8).1.pop.top = 0) := Lib.hid top12
      have HTW : Hid (W64 (TA.run F12 0 gua st12 8).1.pop.top) := Lib.hid (by rw [show (TA.run F12 0 gua st12 8).1.pop.top = peekV st12 (-2) from rfl]; exact HU.out (-2))
      have HLk : Hid (Blk wr gl 173 (cellsF F12)) := Lib.hid LK.out
      clear ra rg rk SK TK LK BK UK
      generalize wr = w6 at *
      go_wp2_with fail
      refine HCk2.out.mono ?_
      rintro e w' ⟨rfl, rfl⟩
      clear HCk2
      go_wp2_with fail
      obtain ⟨s9, hs9⟩ : ∃ s9, (TA.run F12 0 gua st12 8).2 = s9 := ⟨_, rfl⟩
      rw [hs9] at SE HRG HTop HLg TB8
      clear TE hs9
      have BL9 : Hid (Blk w6 gl 173 (cellsF F12)) := HLk
      go_loopw [10] (fun i wr => ∃ (k : Nat) (x : TkM) (s' : MSt), k ≤ 30 ∧ i = .int .i64 k ∧ TkAt (fun q => q = gl ∨ q = gb ∨ q = ga ∨ q = gua) w1 wr gm gb gl dv pv 0 x s' ∧ TA.NN F12 1 1 0 4 9 x s' ∧ (x.part = 0 ∨ TA.mu 1 1 x + (k : Int) ≤ 30) ∧ Fine (30 + k) s'.dev ∧ CalmN (130 + (k : Int)) s' ∧ peekV s' (genN F12 0) = 1 ∧ Blk wr gl 173 (cellsF F12) ∧ Blk wr ga 149 ((TA.run F12 0 gua st12 8).1.cells gl ga 0) ∧ Blk wr gua 217 ((TA.run F12 0 gua st12 8).1.pop.cells gl 0)) (fun i _ => 30 - (intOf i).toNat)
      case atStart => exact ⟨0, _, _, by omega, rfl, TB8.out, TA.NN.start SE.out.1 HTop.out HLg.out, Or.inr (by show (10 : Int) + ((1 : Nat) : Int) + ((1 : Nat) : Int) + ((0 : Nat) : Int) ≤ 30; decide), SE.out.2.1, by have := SE.out.2.2; simpa using this, HRG.out, BL9.out, BA8.out, BU8.out⟩
      case round =>
        obtain ⟨k, x, s', hk, rfl, tk, nn, hmu, fi, ca, pg, lk, ak, uk⟩ := hrel
        have TK := Lib.hid tk
        have NK := Lib.hid nn
        have HMu := Lib.hid hmu
        have FK := Lib.hid fi
        have CK := Lib.hid ca
        have PG := Lib.hid pg
        have LK := Lib.hid lk
        have AK := Lib.hid ak
        have UK := Lib.hid uk
        clear tk nn hmu fi ca pg lk ak uk BL9 BA8 BU8 TB8 SE HTop HLg HRG
        by_cases hlt : k < 30
        · have v1 : decide (k < 30) = true := by simp; omega
          have v2 : decide ((k : Int) < 30) = true := by simp; omega
          have HSt := Lib.hid (takeStep_ok (L := 1) (T := 1) (i := 30 + k) (n := 130 + (k : Int)) TK.out (CK.out.calm (by omega)) (by omega) FK.out HOk.out rfl rfl rfl (by decide) rfl (by decide) (by decide) TK.out.mem.peekU CK.out NK.out.wf LK.out (Or.inr (Or.inl rfl)) (Or.inl rfl) (by have := HN.out; omega))
          go_wp2_with fail
          refine HSt.out.mono ?_
          rintro e w5 ⟨n1, n2, rfl, t5, k5⟩
          have T5 := Lib.hid t5
          have K5 := Lib.hid k5
          have NS := Lib.hid (NK.out.step (F := F12) rfl (by decide) (by decide) HLp.out TK.out.mem.peekU CK.out n1 n2)
          have CS := Lib.hid (tkS_wf (F := F12) (T := 1) (L := 1) (t := 0) (n1 := n1) (n2 := n2) rfl (by decide) TK.out.mem.peekU NK.out.wf CK.out).2
          have FS : Hid (Fine (30 + k + 1) (tkS F12 1 0 x s' n1 n2).2.dev) := Lib.hid (tkS_fine9 FK.out (by rw [NK.out.ok.n]; decide))
          have PS : Hid (peekV (tkS F12 1 0 x s' n1 n2).2 (genN F12 0) = 1) := Lib.hid ((NN_peek NK.out (by decide) HGp.out n1 n2).trans PG.out)
          have MS : Hid ((tkS F12 1 0 x s' n1 n2).1.part = 0 ∨ TA.mu 1 1 (tkS F12 1 0 x s' n1 n2).1 + ((k + 1 : Nat) : Int) ≤ 30) := Lib.hid (by
            by_cases hp0 : x.part = 0
            · have et : tkS F12 1 0 x s' n1 n2 = (x, s') := by
                unfold tkS
                rw [hp0]
                rfl
              rw [et]
              exact Or.inl hp0
            · rcases NS.out.2 hp0 with h | h
              · exact Or.inl h
              · rcases HMu.out with h2 | h2
                · exact absurd h2 hp0
                · exact Or.inr (by omega))
          clear t5 k5 HSt
          generalize tkS F12 1 0 x s' n1 n2 = q at *
          go_wp2_with fail
          go_roundw
          case rel => exact ⟨k + 1, q.1, q.2, by omega, by go_num, T5.out, NS.out.1, MS.out, FS.out, by rw [show (130 : Int) + ((k + 1 : Nat) : Int) = 130 + (k : Int) + 1 by omega]; exact CS.out, PS.out, (K5.out gl (Or.inl rfl) (by have := HN.out; omega)).trans LK.out, (K5.out ga (Or.inr (Or.inr (Or.inl rfl))) (by have := HN.out; omega)).trans AK.out, (K5.out gua (Or.inr (Or.inr (Or.inr rfl))) (by have := HN.out; omega)).trans UK.out⟩
          case measure => simp [intOf]; omega
        · have v1 : decide (k < 30) = false := by simp; omega
          have v2 : decide ((k : Int) < 30) = false := by simp; omega
          obtain rfl : k = 30 := by omega
          have hp0 : x.part = 0 := by
            rcases HMu.out with h | h
            · exact h
            · refine Classical.byContradiction fun c => ?_
              have := TA.mu_pos NK.out c
              omega
          obtain ⟨e1, e2, e3⟩ := NK.out.p0 hp0
          generalize wr = w7 at *
          have HGn : Hid (Calls Tryz.prog 89 #[.pointer (some ⟨gl, 0, none⟩), .int .i64 0] w7 fun e w' => e = .returned (.int .i64 (genN F12 0)) ∧ Ext w7 w') := Lib.hid (gen_ok HOk.out gl 0 w7 LK.out)
          have har := genN_rng HOk.out 0
          have HPk : Hid (∀ W, Ext w7 W → Calls Tryz.prog 82 #[.pointer (some ⟨gm, 0, none⟩), .int .i64 (genN F12 0)] W fun e w' => e = .returned (.tuple #[.int .u64 1, .bool (peekB s' (genN F12 0))]) ∧ W = w') := Lib.hid (fun W xw => by
            have h := (TK.out.mem.ext xw).peek _ har.1 har.2
            rw [PG.out] at h
            exact h)
          have HDa : Hid (∀ W, Ext w7 W → Calls Tryz.prog 21 #[.pointer (some ⟨ga, 0, none⟩)] W fun e w' => e = .returned (.bool true) ∧ W = w') := Lib.hid (fun W xw => takeDone_yes W ga ((AK.out.ext xw).cell 2))
          have HPs : Hid (∀ W, Ext w7 W → Calls Tryz.prog 95 #[.pointer (some ⟨gua, 0, none⟩)] W fun e w' => e = .returned (.int .i64 0) ∧ Ext W w') := Lib.hid (fun W xw => by
            have h := popSlot_ok W gua _ true HTW.out ((UK.out.ext xw).cell 3) ((UK.out.ext xw).cell 4)
            rw [if_pos rfl, HTA.out] at h
            exact h)
          have HSa : Hid (∀ W, Ext w7 W → Calls Tryz.prog 22 #[.pointer (some ⟨ga, 0, none⟩)] W fun e w' => e = .returned (.int .i64 0) ∧ Ext W w') := Lib.hid (fun W xw => takeSlot_yes W ga gua 0 ((AK.out.ext xw).cell 2) ((AK.out.ext xw).cell 3) (HPs.out W xw))
          have HHa : Hid (∀ W, Ext w7 W → Calls Tryz.prog 23 #[.pointer (some ⟨ga, 0, none⟩)] W fun e w' => e = .returned (.int .i64 0) ∧ Ext W w') := Lib.hid (fun W xw => by
            have h := takeHolds_ok W ga gua (.pointer none) 0 (-1) ((AK.out.ext xw).cell 3) ((AK.out.ext xw).cell 5) (HPs.out W xw) (fun W' x' => (holds_nil W').mono (by rintro e w' ⟨rfl, rfl⟩; exact ⟨rfl, Ext.refl _⟩))
            rw [if_neg (by decide)] at h
            exact h)
          have HDb : Hid (∀ W, Ext w7 W → Calls Tryz.prog 21 #[.pointer (some ⟨gb, 0, none⟩)] W fun e w' => e = .returned (.bool true) ∧ W = w') := Lib.hid (fun W xw => by
            have h := tkDone_ok (TK.out.ext xw) NK.out.wf.part
            rw [show decide (x.part = 0) = true from by simpa using hp0] at h
            exact h)
          have HSb : Hid (∀ W, Ext w7 W → Calls Tryz.prog 22 #[.pointer (some ⟨gb, 0, none⟩)] W fun e w' => e = .returned (.int .i64 (-1)) ∧ Ext W w') := Lib.hid (fun W xw => by
            have h := tkSlot_ok (TK.out.ext xw) NK.out.wf
            rw [if_pos hp0, e1] at h
            exact h)
          have HEb : Hid (∀ W, Ext w7 W → Calls Tryz.prog 25 #[.pointer (some ⟨gb, 0, none⟩)] W fun e w' => e = .returned (.int .i64 s'.clock) ∧ W = w') := Lib.hid (fun W xw => by
            have h := tkEmpty_ok (TK.out.ext xw)
            rw [e2, if_pos rfl, e3] at h
            exact h)
          have HCb : Hid (∀ W, Ext w7 W → Calls Tryz.prog 77 #[.pointer (some ⟨gm, 0, none⟩)] W fun e w' => e = .returned (.int .i64 s'.clock) ∧ W = w') := Lib.hid (fun W xw => memClock_ok (TK.out.mem.ext xw))
          have XW := Lib.hid TK.out.mem.lt.1
          have X1' := Lib.hid HX1.out
          generalize peekB s' (genN F12 0) = pb at *
          generalize genN F12 0 = gn at *
          generalize s'.clock = cl at *
          clear hp0 e1 e2 e3 har HMu TK NK FK CK PG LK AK UK HPs HOk HAA HFi HCa HU HLp HGp HTA HTW
          go_wp2_with fail
          refine HGn.out.mono ?_
          rintro e w8 ⟨rfl, x8⟩
          have X8 := Lib.hid x8
          clear x8 HGn
          go_wp2_with fail
          refine (HPk.out _ X8.out).mono ?_
          rintro e w' ⟨rfl, rfl⟩
          clear HPk
          go_wp2_with fail
          refine (HDa.out _ X8.out).mono ?_
          rintro e w' ⟨rfl, rfl⟩
          go_wp2_with fail
          refine (HSa.out _ X8.out).mono ?_
          rintro e w9 ⟨rfl, x9⟩
          replace X8 := Lib.hid (X8.out.trans x9)
          clear x9
          go_wp2_with fail
          refine (HHa.out _ X8.out).mono ?_
          rintro e w10 ⟨rfl, x9⟩
          replace X8 := Lib.hid (X8.out.trans x9)
          clear x9
          go_wp2_with fail
          refine (HDb.out _ X8.out).mono ?_
          rintro e w' ⟨rfl, rfl⟩
          go_wp2_with fail
          refine (HSb.out _ X8.out).mono ?_
          rintro e w11 ⟨rfl, x9⟩
          replace X8 := Lib.hid (X8.out.trans x9)
          clear x9
          go_wp2_with fail
          refine (HEb.out _ X8.out).mono ?_
          rintro e w' ⟨rfl, rfl⟩
          go_wp2_with fail
          refine (HCb.out _ X8.out).mono ?_
          rintro e w' ⟨rfl, rfl⟩
          go_wp2_with fail
          go_ret
          exact ⟨rfl, (X1'.out.trans XW.out).trans X8.out⟩
end Go.Proofs.YtbicloceaddinaaGreat

