/- A device of few lines: what was flushed is few, however long the way; what flushes and fences leave of what is seen. Conditions: those that each theorem names. -/
import Derived.Test.YtbicloceaddinaaGreatKPk
import Derived.Test.YtbicloceaddinaaGreatKFen
namespace Go.Proofs.YtbicloceaddinaaGreat
open Go.ChangeShapes Go.WideShapes Go.ChangeAt Go.RowKit
set_option linter.unusedVariables false
theorem seen_flush (s : DSt) (t l : Int) : (s.flush t l).seen = s.seen ∧ (s.flush t l).n = s.n := by
  unfold DSt.flush
  split <;> exact ⟨rfl, rfl⟩
theorem seen_fence (s : DSt) (t : Int) : (s.fence t).seen = s.seen ∧ (s.fence t).n = s.n := by
  unfold DSt.fence
  split
  · exact ⟨backs_seen _ _, backs_n _ _⟩
  · exact ⟨rfl, rfl⟩
theorem MOk.flush {P N : Nat} {s : MSt} (h : MOk P N s) (t a : Int) : MOk P N (s.flush t a) := by
  obtain ⟨e1, e2⟩ := seen_flush s.dev t (lineNo a)
  exact ⟨h.p, e2.trans h.n, by show (s.dev.flush t (lineNo a)).seen.length = (s.dev.flush t (lineNo a)).n * 8; rw [e1, e2]; exact h.l⟩
theorem MOk.fence {P N : Nat} {s : MSt} (h : MOk P N s) (t : Int) : MOk P N (s.fence t) := by
  obtain ⟨e1, e2⟩ := seen_fence s.dev t
  exact ⟨h.p, e2.trans h.n, by show (s.dev.fence t).seen.length = (s.dev.fence t).n * 8; rw [e1, e2]; exact h.l⟩
theorem sorted_len : ∀ (l : List Int) (lo n : Int), l.Pairwise (· < ·) → (∀ x ∈ l, lo ≤ x ∧ x < n) → lo ≤ n → (l.length : Int) ≤ n - lo
  | [], lo, n, _, _, h => by simp; omega
  | x :: l, lo, n, hs, hr, h => by
    have hx := hr x (by simp)
    have h1 := List.pairwise_cons.1 hs
    have := sorted_len l (x + 1) n h1.2 (fun y hy => ⟨h1.1 y hy, (hr y (by simp [hy])).2⟩) (by omega)
    simp only [List.length_cons]
    omega
theorem Fine.len90 {i : Nat} {s : DSt} (h : Fine i s) (hn : s.n ≤ 90) (t : Nat) : (s.fl.getD t []).length ≤ 90 := by
  have := sorted_len _ 0 s.n (h.srt t) (h.rng t) (by omega)
  omega
theorem Fine.flush9 {i : Nat} {s : DSt} (h : Fine i s) (t l : Int) : Fine (i + 1) (s.flush t l) := by
  unfold DSt.flush
  split
  · rename_i hc
    refine ⟨fun t' => ?_, fun t' y hy => ?_, fun t' => ?_, h.few.mono (by omega)⟩
    · show (((s.fl.set t.toNat _).getD t' []).Pairwise (· < ·))
      rcases getD_set s.fl t.toNat t' (setAdd (s.fl.getD t.toNat []) l) with e | e
      · rw [e]; exact setAdd_sorted _ _ (h.srt _)
      · rw [e]; exact h.srt _
    · have hy' : y ∈ (s.fl.set t.toNat (setAdd (s.fl.getD t.toNat []) l)).getD t' [] := hy
      show 0 ≤ y ∧ y < (s.n : Int)
      rcases getD_set s.fl t.toNat t' (setAdd (s.fl.getD t.toNat []) l) with e | e
      · rw [e] at hy'
        rcases (setAdd_mem _ _ _).1 hy' with rfl | hy'
        · exact ⟨hc.2.2.1, hc.2.2.2⟩
        · exact h.rng _ _ hy'
      · rw [e] at hy'
        exact h.rng _ _ hy'
    · show ((s.fl.set t.toNat _).getD t' []).length ≤ i + 1
      rcases getD_set s.fl t.toNat t' (setAdd (s.fl.getD t.toNat []) l) with e | e
      · rw [e]
        have := setAdd_len (s.fl.getD t.toNat []) l
        have := h.len t.toNat
        omega
      · rw [e]
        have := h.len t'
        omega
  · exact h.up
theorem Fine.fence9 {i : Nat} {s : DSt} (h : Fine i s) (hn9 : s.n ≤ 90) (t : Int) : Fine (i + 1) (s.fence t) := by
  unfold DSt.fence
  split
  · have hn : (s.backs (s.fl.getD t.toNat [])).n = s.n := backs_n _ s
    refine ⟨fun t' => ?_, fun t' y hy => ?_, fun t' => ?_, ?_⟩
    · show (((s.fl.set t.toNat []).getD t' []).Pairwise (· < ·))
      rcases getD_set s.fl t.toNat t' [] with e | e
      · rw [e]; exact List.Pairwise.nil
      · rw [e]; exact h.srt _
    · have hy' : y ∈ (s.fl.set t.toNat []).getD t' [] := hy
      show 0 ≤ y ∧ y < ((s.backs (s.fl.getD t.toNat [])).n : Int)
      rw [hn]
      rcases getD_set s.fl t.toNat t' [] with e | e
      · rw [e] at hy'; cases hy'
      · rw [e] at hy'
        exact h.rng _ _ hy'
    · show ((s.fl.set t.toNat []).getD t' []).length ≤ i + 1
      rcases getD_set s.fl t.toNat t' [] with e | e
      · rw [e]; simp
      · rw [e]
        have := h.len t'
        omega
    · have hl := h.len90 hn9 t.toNat
      exact (backs_few (s.fl.getD t.toNat []) s _ h.few).mono (by omega)
  · exact h.up
theorem act_fine9 {k : Nat} {s : MSt} (hf : Fine k s.dev) (hn : s.dev.n ≤ 90) (kd t a z x : Int) : Fine (k + 1) (s.act kd t a z x).dev := by
  unfold MSt.act
  split
  · unfold MSt.load; split <;> exact hf.up
  split
  · unfold MSt.store; split
    · exact (put_fine0 hf a x).up
    · exact hf.up
  split
  · unfold MSt.swap; split
    · split
      · exact (put_fine0 hf a x).up
      · exact hf.up
    · exact hf.up
  split
  · exact hf.flush9 t (lineNo a)
  split
  · exact hf.fence9 hn t
  split
  · show Fine (k + 1) (s.dev.evict a)
    unfold DSt.evict
    split
    · exact ⟨hf.srt, hf.rng, fun t => by have := hf.len t; show (s.dev.fl.getD t []).length ≤ k + 1; omega, (Few.back hf.few _).mono (by omega)⟩
    · exact hf.up
  · have hg : ∀ t', (List.replicate s.dev.T ([] : List Int)).getD t' [] = [] := fun t' => by
      rw [List.getD_eq_getElem?_getD, List.getElem?_replicate]
      split <;> rfl
    refine ⟨fun t' => ?_, fun t' y hy => ?_, fun t' => ?_, hf.few.mono (by omega)⟩
    · show (((List.replicate s.dev.T ([] : List Int)).getD t' []).Pairwise (· < ·))
      rw [hg]; exact List.Pairwise.nil
    · have hy' : y ∈ (List.replicate s.dev.T ([] : List Int)).getD t' [] := hy
      rw [hg] at hy'; cases hy'
    · show ((List.replicate s.dev.T ([] : List Int)).getD t' []).length ≤ k + 1
      rw [hg]; simp
end Go.Proofs.YtbicloceaddinaaGreat


/- Package link: the states of a Read and of a Set, their steps as functions, and the document's beside them. Conditions: those that each theorem names. -/
namespace Go.Proofs.YtbicloceaddinaaGreat
open Go.ChangeShapes Go.WideShapes Go.ChangeAt Go.RowKit
set_option linter.unusedVariables false
/-- A word, clean; and dirty. -/
def clN (x : Int) : Int := x % 9223372036854775808
def soN (x : Int) : Int := x % 9223372036854775808 + 9223372036854775808
theorem clN_rng (x : Int) : W64 (clN x) := by unfold clN W64; omega
theorem soN_rng (x : Int) : W64 (soN x) := by unfold soN W64; omega
theorem clN_so (x : Int) : clN (soN x) = clN x := by unfold clN soN; omega
theorem soN_cl (x : Int) : soN (clN x) = soN x := by unfold clN soN; omega
theorem clN_cl (x : Int) : clN (clN x) = clN x := by unfold clN; omega
/-- How often a word's line was written back. -/
def writesV (s : DSt) (a : Int) : Int := if 0 ≤ a ∧ a < (s.n : Int) * 8 then s.writes.getD (a / 8).toNat 0 else 0
/-- The cells of a machine of package link; behind them its own. -/
def lkC (t a part wd wh : Int) (dn : Bool) (cs : List Value) : List Value := .int .i64 t :: .int .i64 a :: .int .i64 part :: .int .u64 wd :: .int .i64 wh :: .bool dn :: cs
/-- A Read: which part comes next, the word that it has, when, whether it is done. -/
structure LrM where
  part : Int
  wd : Int
  wh : Int
  dn : Bool
def LrM.cells (x : LrM) (t a : Int) : List Value := lkC t a x.part x.wd x.wh x.dn []
structure LrM.Wf (x : LrM) : Prop where
  part : x.part = 0 ∨ x.part = 1 ∨ x.part = 2 ∨ x.part = 3
  wd : W64 x.wd
def lrS (t a : Int) (x : LrM) (s : MSt) : LrM × MSt :=
  if x.dn = true then (x, s)
  else if x.part = 0 then (if BM.dirtyB (peekV s a) = true then ⟨1, peekV s a, x.wh, false⟩ else ⟨0, peekV s a, (s.load t a).clock, true⟩, s.load t a)
  else if x.part = 1 then (⟨2, x.wd, x.wh, false⟩, s.flush t a)
  else if x.part = 2 then (⟨3, x.wd, x.wh, false⟩, s.fence t)
  else (⟨0, x.wd, x.wh, false⟩, s.swap t a x.wd (clN x.wd))
/-- The document's Read. -/
structure RLr where
  line : Int
  got : Int
  wd : Int
  wh : Int
def RLr.cells (r : RLr) (t a : Int) : List Value := [.int .i64 t, .int .i64 a, .int .i64 r.line, .int .u64 r.got, .int .u64 r.wd, .int .i64 r.wh]
structure RLr.Wf (r : RLr) : Prop where
  line : r.line = 0 ∨ r.line = 1 ∨ r.line = 2 ∨ r.line = 3 ∨ r.line = 4
  got : W64 r.got
def rlrS (t a : Int) (r : RLr) (s : MSt) : RLr × MSt :=
  if r.line = 1 then (if BM.dirtyB (peekV s a) = true then ⟨2, peekV s a, r.wd, r.wh⟩ else ⟨0, peekV s a, peekV s a, (s.load t a).clock⟩, s.load t a)
  else if r.line = 2 then (⟨3, r.got, r.wd, r.wh⟩, s.flush t a)
  else if r.line = 3 then (⟨4, r.got, r.wd, r.wh⟩, s.fence t)
  else if r.line = 4 then (⟨1, r.got, r.wd, r.wh⟩, s.swap t a r.got (clN r.got))
  else (r, s)
/-- A Read beside the document's. -/
structure RelR (x : LrM) (r : RLr) : Prop where
  xw : x.Wf
  rw : r.Wf
  line : r.line = if x.dn = true then 0 else x.part + 1
  got : x.part ≠ 0 → r.got = x.wd
  wd : r.wd = if x.dn = true then x.wd else 0
  wh : r.wh = if x.dn = true then x.wh else -1
theorem RelR.step {t a : Int} {x : LrM} {r : RLr} {s : MSt} (h : RelR x r) (hU : ∀ b, W64 (peekV s b)) : (rlrS t a r s).2 = (lrS t a x s).2 ∧ RelR (lrS t a x s).1 (rlrS t a r s).1 := by
  obtain ⟨part, wd, wh, dn⟩ := x
  obtain ⟨line, got, rwd, rwh⟩ := r
  obtain ⟨hx, hr, hl, hg, hw, hh⟩ := h
  simp only at hl hg hw hh
  have hv := hU a
  cases dn
  · have hl' : line = part + 1 := by simpa using hl
    have hw' : rwd = 0 := by simpa using hw
    have hh' : rwh = -1 := by simpa using hh
    subst hl' hw' hh'
    rcases hx.part with e | e | e | e
    · have e' : part = 0 := e
      subst e'
      have e1 : lrS t a ⟨0, wd, wh, false⟩ s = (if BM.dirtyB (peekV s a) = true then ⟨1, peekV s a, wh, false⟩ else ⟨0, peekV s a, (s.load t a).clock, true⟩, s.load t a) := rfl
      have e2 : rlrS t a ⟨0 + 1, got, 0, -1⟩ s = (if BM.dirtyB (peekV s a) = true then ⟨2, peekV s a, 0, -1⟩ else ⟨0, peekV s a, peekV s a, (s.load t a).clock⟩, s.load t a) := rfl
      rw [e1, e2]
      refine ⟨rfl, ?_⟩
      by_cases hd : BM.dirtyB (peekV s a) = true
      · simp only [if_pos hd]
        exact ⟨⟨Or.inr (Or.inl rfl), hv⟩, ⟨Or.inr (Or.inr (Or.inl rfl)), hv⟩, rfl, fun _ => rfl, rfl, rfl⟩
      · simp only [if_neg hd]
        exact ⟨⟨Or.inl rfl, hv⟩, ⟨Or.inl rfl, hv⟩, rfl, fun h => absurd rfl h, rfl, rfl⟩
    · have e' : part = 1 := e
      subst e'
      have hg' : got = wd := hg (by decide)
      subst hg'
      have e1 : lrS t a ⟨1, got, wh, false⟩ s = (⟨2, got, wh, false⟩, s.flush t a) := rfl
      have e2 : rlrS t a ⟨1 + 1, got, 0, -1⟩ s = (⟨3, got, 0, -1⟩, s.flush t a) := rfl
      rw [e1, e2]
      exact ⟨rfl, ⟨Or.inr (Or.inr (Or.inl rfl)), hx.wd⟩, ⟨Or.inr (Or.inr (Or.inr (Or.inl rfl))), hr.got⟩, rfl, fun _ => rfl, rfl, rfl⟩
    · have e' : part = 2 := e
      subst e'
      have hg' : got = wd := hg (by decide)
      subst hg'
      have e1 : lrS t a ⟨2, got, wh, false⟩ s = (⟨3, got, wh, false⟩, s.fence t) := rfl
      have e2 : rlrS t a ⟨2 + 1, got, 0, -1⟩ s = (⟨4, got, 0, -1⟩, s.fence t) := rfl
      rw [e1, e2]
      exact ⟨rfl, ⟨Or.inr (Or.inr (Or.inr rfl)), hx.wd⟩, ⟨Or.inr (Or.inr (Or.inr (Or.inr rfl))), hr.got⟩, rfl, fun _ => rfl, rfl, rfl⟩
    · have e' : part = 3 := e
      subst e'
      have hg' : got = wd := hg (by decide)
      subst hg'
      have e1 : lrS t a ⟨3, got, wh, false⟩ s = (⟨0, got, wh, false⟩, s.swap t a got (clN got)) := rfl
      have e2 : rlrS t a ⟨3 + 1, got, 0, -1⟩ s = (⟨1, got, 0, -1⟩, s.swap t a got (clN got)) := rfl
      rw [e1, e2]
      exact ⟨rfl, ⟨Or.inl rfl, hx.wd⟩, ⟨Or.inr (Or.inl rfl), hr.got⟩, rfl, fun h => absurd rfl h, rfl, rfl⟩
  · have hl' : line = 0 := by simpa using hl
    subst hl'
    have e1 : lrS t a ⟨part, wd, wh, true⟩ s = (⟨part, wd, wh, true⟩, s) := rfl
    have e2 : rlrS t a ⟨0, got, rwd, rwh⟩ s = (⟨0, got, rwd, rwh⟩, s) := rfl
    rw [e1, e2]
    exact ⟨rfl, hx, hr, hl, hg, hw, hh⟩
theorem RelR.zero : RelR ⟨0, 0, 0, false⟩ ⟨1, 0, 0, -1⟩ := ⟨⟨Or.inl rfl, ⟨Int.le_refl 0, by show (0 : Int) < _; decide⟩⟩, ⟨Or.inr (Or.inl rfl), ⟨Int.le_refl 0, by show (0 : Int) < _; decide⟩⟩, rfl, fun h => absurd rfl h, rfl, rfl⟩
theorem RelR.lineB {x : LrM} {r : RLr} (h : RelR x r) : (r.line == 0) = x.dn := by
  have hl := h.line
  have hp := h.xw.part
  cases hd : x.dn
  · rw [hd, if_neg (by decide)] at hl
    rw [hl]
    rw [beq_eq_false_iff_ne]
    omega
  · rw [hd, if_pos rfl] at hl
    rw [hl]
    rfl
theorem lrS_calm {n : Int} {t a : Int} {x : LrM} {s : MSt} (h : CalmN n s) : CalmN (n + 1) (lrS t a x s).2 := by
  unfold lrS
  split
  · exact CalmN.mono h (by omega)
  split
  · exact act_calm h 1 t a 0 0
  split
  · exact act_calm h 4 t a 0 0
  split
  · exact act_calm h 5 t 0 0 0
  · exact act_calm h 3 t a x.wd (clN x.wd)
/-- A Set: which part comes next, when it put the link, whether it is done, whether it put it, how often the line had been written back. -/
structure LsM where
  part : Int
  wh : Int
  dn : Bool
  put : Bool
  wr : Int
def LsM.cells (x : LsM) (t a wd old : Int) : List Value := lkC t a x.part wd x.wh x.dn [.int .u64 old, .bool x.put, .int .i64 x.wr]
def lsS (t a wd old : Int) (x : LsM) (s : MSt) : LsM × MSt :=
  if x.dn = true then (x, s)
  else if x.part = 0 then (if swapB s a old = true then ⟨1, (s.swap t a old wd).clock, false, true, writesV (s.swap t a old wd).dev a⟩ else ⟨0, x.wh, true, false, x.wr⟩, s.swap t a old wd)
  else if x.part = 1 then (⟨2, x.wh, false, x.put, x.wr⟩, s.flush t a)
  else if x.part = 2 then (⟨3, x.wh, false, x.put, x.wr⟩, s.fence t)
  else (⟨3, x.wh, true, x.put, x.wr⟩, s.swap t a wd (clN wd))
/-- The document's Set. -/
structure RLs where
  line : Int
  put : Bool
  wh : Int
  wr : Int
def RLs.cells (r : RLs) (t a old new : Int) : List Value := [.int .i64 t, .int .i64 a, .int .i64 r.line, .int .u64 old, .int .u64 new, .bool r.put, .int .i64 r.wh, .int .i64 r.wr]
def rlsS (t a old new : Int) (r : RLs) (s : MSt) : RLs × MSt :=
  if r.line = 1 then (if swapB s a old = true then ⟨2, true, (s.swap t a old (soN new)).clock, if 0 ≤ a then writesV (s.swap t a old (soN new)).dev a else r.wr⟩ else ⟨0, r.put, r.wh, r.wr⟩, s.swap t a old (soN new))
  else if r.line = 2 then (⟨3, r.put, r.wh, r.wr⟩, s.flush t a)
  else if r.line = 3 then (⟨4, r.put, r.wh, r.wr⟩, s.fence t)
  else if r.line = 4 then (⟨0, r.put, r.wh, r.wr⟩, s.swap t a (soN new) new)
  else (r, s)
/-- A Set beside the document's. -/
structure RelS (x : LsM) (r : RLs) : Prop where
  part : x.part = 0 ∨ x.part = 1 ∨ x.part = 2 ∨ x.part = 3
  line : r.line = if x.dn = true then 0 else x.part + 1
  put : r.put = x.put
  wh : r.wh = if x.put = true then x.wh else -1
  wr : r.wr = x.wr
  no : x.dn = false → x.part = 0 → x.put = false ∧ x.wr = 0
theorem RelS.step {t a w o : Int} {x : LsM} {r : RLs} {s : MSt} (h : RelS x r) : (rlsS t a (clN o) (clN w) r s).2 = (lsS t a (soN w) (clN o) x s).2 ∧ RelS (lsS t a (soN w) (clN o) x s).1 (rlsS t a (clN o) (clN w) r s).1 := by
  obtain ⟨part, wh, dn, put, wr⟩ := x
  obtain ⟨line, rput, rwh, rwr⟩ := r
  obtain ⟨hx, hl, hp, hh, hw, hn⟩ := h
  simp only at hx hl hp hh hw hn
  subst hp hw
  have es := soN_cl w
  have ec := clN_so w
  cases dn
  · have hl' : line = part + 1 := by simpa using hl
    subst hl'
    rcases hx with e | e | e | e
    · subst e
      obtain ⟨n1, n2⟩ := hn rfl rfl
      subst n1 n2
      have hh' : rwh = -1 := by simpa using hh
      subst hh'
      have e1 : lsS t a (soN w) (clN o) ⟨0, wh, false, false, 0⟩ s = (if swapB s a (clN o) = true then ⟨1, (s.swap t a (clN o) (soN w)).clock, false, true, writesV (s.swap t a (clN o) (soN w)).dev a⟩ else ⟨0, wh, true, false, 0⟩, s.swap t a (clN o) (soN w)) := rfl
      have e2 : rlsS t a (clN o) (clN w) ⟨0 + 1, false, -1, 0⟩ s = (if swapB s a (clN o) = true then ⟨2, true, (s.swap t a (clN o) (soN (clN w))).clock, if 0 ≤ a then writesV (s.swap t a (clN o) (soN (clN w))).dev a else 0⟩ else ⟨0, false, -1, 0⟩, s.swap t a (clN o) (soN (clN w))) := rfl
      rw [e1, e2, es]
      refine ⟨rfl, ?_⟩
      by_cases hd : swapB s a (clN o) = true
      · simp only [if_pos hd]
        refine ⟨Or.inr (Or.inl rfl), rfl, rfl, rfl, ?_, fun _ h => absurd (show (1 : Int) = 0 from h) (by decide)⟩
        show (if 0 ≤ a then _ else (0 : Int)) = _
        split
        · rfl
        · unfold writesV
          rw [if_neg (by omega)]
      · simp only [if_neg hd]
        exact ⟨Or.inl rfl, rfl, rfl, rfl, rfl, fun h => absurd (show true = false from h) (by decide)⟩
    · subst e
      exact ⟨rfl, Or.inr (Or.inr (Or.inl rfl)), rfl, rfl, hh, rfl, fun _ h => absurd (show (2 : Int) = 0 from h) (by decide)⟩
    · subst e
      exact ⟨rfl, Or.inr (Or.inr (Or.inr rfl)), rfl, rfl, hh, rfl, fun _ h => absurd (show (3 : Int) = 0 from h) (by decide)⟩
    · subst e
      have e1 : lsS t a (soN w) (clN o) ⟨3, wh, false, rput, rwr⟩ s = (⟨3, wh, true, rput, rwr⟩, s.swap t a (soN w) (clN (soN w))) := rfl
      have e2 : rlsS t a (clN o) (clN w) ⟨3 + 1, rput, rwh, rwr⟩ s = (⟨0, rput, rwh, rwr⟩, s.swap t a (soN (clN w)) (clN w)) := rfl
      rw [e1, e2, es, ec]
      exact ⟨rfl, Or.inr (Or.inr (Or.inr rfl)), rfl, rfl, hh, rfl, fun h => absurd (show true = false from h) (by decide)⟩
  · have hl' : line = 0 := by simpa using hl
    subst hl'
    exact ⟨rfl, hx, rfl, rfl, hh, rfl, hn⟩
theorem RelS.zero : RelS ⟨0, 0, false, false, 0⟩ ⟨1, false, -1, 0⟩ := ⟨Or.inl rfl, rfl, rfl, rfl, rfl, fun _ _ => ⟨rfl, rfl⟩⟩
theorem RelS.lineB {x : LsM} {r : RLs} (h : RelS x r) : (r.line == 0) = x.dn := by
  have hl := h.line
  have hp := h.part
  cases hd : x.dn
  · rw [hd, if_neg (by decide)] at hl
    rw [hl]
    rw [beq_eq_false_iff_ne]
    omega
  · rw [hd, if_pos rfl] at hl
    rw [hl]
    rfl
theorem RelS.lineOk {x : LsM} {r : RLs} (h : RelS x r) : r.line = 0 ∨ r.line = 1 ∨ r.line = 2 ∨ r.line = 3 ∨ r.line = 4 := by
  have hl := h.line
  have hp := h.part
  by_cases hd : x.dn = true
  · rw [if_pos hd] at hl; omega
  · rw [if_neg hd] at hl; omega
theorem lsS_calm {n : Int} {t a wd old : Int} {x : LsM} {s : MSt} (h : CalmN n s) : CalmN (n + 1) (lsS t a wd old x s).2 := by
  unfold lsS
  split
  · exact CalmN.mono h (by omega)
  split
  · exact act_calm h 3 t a old wd
  split
  · exact act_calm h 4 t a 0 0
  split
  · exact act_calm h 5 t 0 0 0
  · exact act_calm h 3 t a wd (clN wd)
theorem lsS_part {t a wd old : Int} {x : LsM} {s : MSt} (h : x.part = 0 ∨ x.part = 1 ∨ x.part = 2 ∨ x.part = 3) : (lsS t a wd old x s).1.part = 0 ∨ (lsS t a wd old x s).1.part = 1 ∨ (lsS t a wd old x s).1.part = 2 ∨ (lsS t a wd old x s).1.part = 3 := by
  unfold lsS
  split
  · exact h
  split
  · by_cases e : swapB s a old = true
    · rw [if_pos e]; exact Or.inr (Or.inl rfl)
    · rw [if_neg e]; exact Or.inl rfl
  split
  · exact Or.inr (Or.inr (Or.inl rfl))
  split
  · exact Or.inr (Or.inr (Or.inr rfl))
  · exact Or.inr (Or.inr (Or.inr rfl))
end Go.Proofs.YtbicloceaddinaaGreat


/- What is kept of a word behind flushes and fences; Reads and Sets alone, and several between one another (package link). Conditions: those that each theorem names. -/
namespace Go.Proofs.YtbicloceaddinaaGreat
open Go.ChangeShapes Go.WideShapes Go.ChangeAt Go.RowKit
set_option linter.unusedVariables false
/-- What is kept of a word; which words, lines and threads a memory has. -/
def keptV (s : MSt) (a : Int) : Int := s.dev.kept.getD a.toNat 0
def flN (s : MSt) (t : Int) : List Int := s.dev.fl.getD t.toNat []
structure LOk (P N T : Nat) (s : MSt) : Prop where
  ok : MOk P N s
  k : s.dev.kept.length = N * 8
  td : s.dev.T = T
  lf : s.dev.fl.length = T
  rng : ∀ t, ∀ x ∈ s.dev.fl.getD t [], 0 ≤ x ∧ x < (N : Int)
/-- Of the device just what is seen differs. -/
structure SeenOnly (s s' : MSt) : Prop where
  k : s'.dev.kept = s.dev.kept
  td : s'.dev.T = s.dev.T
  lf : s'.dev.fl = s.dev.fl
theorem SeenOnly.put (s : MSt) (a x : Int) : SeenOnly s (s.put a x) := by
  unfold MSt.put DSt.store
  (repeat' split) <;> exact ⟨rfl, rfl, rfl⟩
theorem SeenOnly.load (s : MSt) (t a : Int) : SeenOnly s (s.load t a) := by
  unfold MSt.load
  split <;> exact ⟨rfl, rfl, rfl⟩
theorem SeenOnly.swap (s : MSt) (t a o x : Int) : SeenOnly s (s.swap t a o x) := by
  have h := SeenOnly.put s a x
  unfold MSt.swap
  (repeat' split)
  · exact ⟨h.k, h.td, h.lf⟩
  · exact ⟨rfl, rfl, rfl⟩
  · exact ⟨rfl, rfl, rfl⟩
theorem SeenOnly.store (s : MSt) (t a x : Int) : SeenOnly s (s.store t a x) := by
  have h := SeenOnly.put s a x
  unfold MSt.store
  split
  · exact ⟨h.k, h.td, h.lf⟩
  · exact ⟨rfl, rfl, rfl⟩
theorem SeenOnly.kept {s s' : MSt} (h : SeenOnly s s') (b : Int) : keptV s' b = keptV s b := by unfold keptV; rw [h.k]
theorem SeenOnly.fls {s s' : MSt} (h : SeenOnly s s') (t : Int) : flN s' t = flN s t := by unfold flN; rw [h.lf]
theorem LOk.seenOnly {P N T : Nat} {s s' : MSt} (h : LOk P N T s) (o : SeenOnly s s') (ok : MOk P N s') : LOk P N T s' :=
  ⟨ok, by rw [o.k]; exact h.k, by rw [o.td]; exact h.td, by rw [o.lf]; exact h.lf, by rw [o.lf]; exact h.rng⟩
theorem LOk.load {P N T : Nat} {s : MSt} (h : LOk P N T s) (t a : Int) : LOk P N T (s.load t a) := h.seenOnly (SeenOnly.load s t a) (h.ok.load t a)
theorem LOk.swap {P N T : Nat} {s : MSt} (h : LOk P N T s) (t a o x : Int) : LOk P N T (s.swap t a o x) := h.seenOnly (SeenOnly.swap s t a o x) (h.ok.swap t a o x)
theorem LOk.store {P N T : Nat} {s : MSt} (h : LOk P N T s) (t a x : Int) : LOk P N T (s.store t a x) := h.seenOnly (SeenOnly.store s t a x) (h.ok.store t a x)
theorem LOk.big {P N T : Nat} {s : MSt} (h : LOk P N T s) : Big s.dev := ⟨by rw [h.k, h.ok.n], h.ok.l⟩
theorem LOk.start (t s l b : Nat) : LOk (2 + t + s) (wN t s l b) t (startSt t s l b) :=
  ⟨MOk.start t s l b, by simp [startSt, MSt.new, DSt.new], rfl, by simp [startSt, MSt.new, DSt.new], fun t' x m => by
    have e : (startSt t s l b).dev.fl = List.replicate t [] := rfl
    rw [e, List.getD_eq_getElem?_getD, List.getElem?_replicate] at m
    split at m <;> simp at m⟩
theorem LOk.putAll {P N T : Nat} : ∀ {s : MSt} (h : LOk P N T s) (ys : List Put), LOk P N T (putAll s ys)
  | _, h, [] => h
  | _, h, y :: ys => LOk.putAll (h.store 0 y.1 y.2) ys
theorem start_kept (t s l b : Nat) (a : Int) : keptV (startSt t s l b) a = 0 := by
  show (List.replicate (wN t s l b * 8) (0 : Int)).getD a.toNat 0 = 0
  rw [List.getD_eq_getElem?_getD, List.getElem?_replicate]
  split <;> rfl
theorem getD_set_ne {α : Type} (fl : List α) {t t' : Nat} (x d : α) (h : t' ≠ t) : (fl.set t x).getD t' d = fl.getD t' d := by
  rw [List.getD_eq_getElem?_getD, List.getElem?_set_ne (fun e => h e.symm), ← List.getD_eq_getElem?_getD]
theorem getD_set_eq {α : Type} (fl : List α) {t : Nat} (x d : α) (h : t < fl.length) : (fl.set t x).getD t d = x := by
  rw [List.getD_eq_getElem?_getD, List.getElem?_set_self h]
  rfl
/-- A flush: what is seen and kept stays; the word's line is its thread's. -/
theorem lk_flush {P N T : Nat} {s : MSt} (h : LOk P N T s) (t a : Int) : LOk P N T (s.flush t a) ∧ (∀ b, peekV (s.flush t a) b = peekV s b) ∧ (∀ b, keptV (s.flush t a) b = keptV s b) ∧ (∀ t' q, q ∈ flN s t' → q ∈ flN (s.flush t a) t') ∧ (∀ t' q, q ∈ flN (s.flush t a) t' → q ∈ flN s t' ∨ q = a / 8) ∧ (0 ≤ t → t < (T : Int) → 0 ≤ a → a < (N : Int) * 8 → a / 8 ∈ flN (s.flush t a) t) := by
  have ed : (s.flush t a).dev = s.dev.flush t (lineNo a) := rfl
  have ep : (s.flush t a).pas = s.pas := rfl
  by_cases hv : 0 ≤ t ∧ t < s.dev.T ∧ 0 ≤ lineNo a ∧ lineNo a < s.dev.n
  · have e1 : s.dev.flush t (lineNo a) = { s.dev with fl := s.dev.fl.set t.toNat (setAdd (s.dev.fl.getD t.toNat []) (lineNo a)) } := by unfold DSt.flush; rw [if_pos hv]
    rw [e1] at ed
    have hT := h.td
    have hF := h.lf
    have hN := h.ok.n
    have ht : t.toNat < s.dev.fl.length := by omega
    have ha : lineNo a = a / 8 := by
      unfold lineNo at hv ⊢
      split
      · rename_i c
        rw [if_pos c] at hv
        omega
      · rfl
    have hfl : ∀ t' : Nat, (s.flush t a).dev.fl.getD t' [] = if t' = t.toNat then setAdd (s.dev.fl.getD t.toNat []) (a / 8) else s.dev.fl.getD t' [] := fun t' => by
      rw [ed]
      show (s.dev.fl.set t.toNat (setAdd (s.dev.fl.getD t.toNat []) (lineNo a))).getD t' [] = _
      rw [ha]
      by_cases e : t' = t.toNat
      · rw [if_pos e, e, getD_set_eq _ _ _ ht]
      · rw [if_neg e, getD_set_ne _ _ _ e]
    have hmem : ∀ (t' : Nat) (q : Int), q ∈ (s.flush t a).dev.fl.getD t' [] → q ∈ s.dev.fl.getD t' [] ∨ q = a / 8 := fun t' q m => by
      rw [hfl] at m
      split at m
      · rename_i e
        rw [e]
        rcases (setAdd_mem _ _ _).1 m with e2 | e2
        · exact Or.inr e2
        · exact Or.inl e2
      · exact Or.inl m
    refine ⟨⟨⟨by rw [ep]; exact h.ok.p, by rw [ed]; exact h.ok.n, by rw [ed]; exact h.ok.l⟩, by rw [ed]; exact h.k, by rw [ed]; exact h.td, by rw [ed]; show (s.dev.fl.set _ _).length = T; rw [List.length_set]; exact h.lf, fun t' q m => ?_⟩, fun b => ?_, fun b => by unfold keptV; rw [ed], fun t' q m => ?_, fun t' q m => hmem _ _ m, fun _ _ _ _ => ?_⟩
    · rcases hmem t' q m with m | m
      · exact h.rng t' q m
      · rw [m, ← ha]
        rw [hN] at hv
        exact ⟨hv.2.2.1, hv.2.2.2⟩
    · unfold peekV loadV
      rw [ed, ep]
    · show q ∈ (s.flush t a).dev.fl.getD t'.toNat []
      rw [hfl]
      split
      · rename_i e
        rw [e.symm] at *
        exact (setAdd_mem _ _ _).2 (Or.inr m)
      · exact m
    · show a / 8 ∈ (s.flush t a).dev.fl.getD t.toNat []
      rw [hfl, if_pos rfl]
      exact (setAdd_mem _ _ _).2 (Or.inl rfl)
  · have e1 : s.dev.flush t (lineNo a) = s.dev := by unfold DSt.flush; rw [if_neg hv]
    rw [e1] at ed
    refine ⟨⟨h.ok.same ed ep, by rw [ed]; exact h.k, by rw [ed]; exact h.td, by rw [ed]; exact h.lf, by rw [ed]; exact h.rng⟩, fun b => peekV_eq ed ep b, fun b => by unfold keptV; rw [ed], fun t' q m => by unfold flN; rw [ed]; exact m, fun t' q m => by unfold flN at m; rw [ed] at m; exact Or.inl m, fun h0 h1 h2 h3 => absurd ⟨h0, by rw [h.td]; exact h1, ?_, ?_⟩ hv⟩
    · unfold lineNo; rw [if_neg (by omega)]; omega
    · unfold lineNo; rw [if_neg (by omega), h.ok.n]; omega
theorem keptV_line {z z' : List Int} {q j : Nat} (hj : j < 8) (e : lineOf z q = lineOf z' q) : z.getD (q * 8 + j) 0 = z'.getD (q * 8 + j) 0 := by
  rw [List.getD_eq_getElem?_getD, List.getD_eq_getElem?_getD, ← lineOf_get _ _ _ hj, ← lineOf_get _ _ _ hj, e]
theorem peekV_dev {P N : Nat} {s : MSt} (h : MOk P N s) {b : Int} (h0 : 0 ≤ b) (h1 : b < (N : Int) * 8) : peekV s b = s.dev.seen.getD b.toNat 0 := by
  unfold peekV loadV
  rw [if_pos h0, if_pos ⟨h0, by rw [h.n]; exact h1⟩]
/-- Lines are written back: what is kept of a word is as it was, or what is seen; of a line that was written back it is what is seen. -/
theorem lk_backs {P N T : Nat} {s : MSt} (h : LOk P N T s) (l : List Int) (hl : ∀ x ∈ l, 0 ≤ x ∧ x < (N : Int)) {b : Int} (h0 : 0 ≤ b) (h1 : b < (N : Int) * 8) : ((s.dev.backs l).kept.getD b.toNat 0 = keptV s b ∨ (s.dev.backs l).kept.getD b.toNat 0 = peekV s b) ∧ (b / 8 ∈ l → (s.dev.backs l).kept.getD b.toNat 0 = peekV s b) := by
  have hN := h.ok.n
  obtain ⟨k1, k2⟩ := backs_line l s.dev h.big (by rw [hN]; exact hl) (b.toNat / 8) (by omega)
  have hj : b.toNat % 8 < 8 := Nat.mod_lt _ (by decide)
  have e : b.toNat / 8 * 8 + b.toNat % 8 = b.toNat := by omega
  rw [peekV_dev h.ok h0 h1]
  unfold keptV
  refine ⟨?_, fun m => ?_⟩
  · rcases k1 with k | k
    · have := keptV_line hj k
      rw [e] at this
      exact Or.inl this
    · have := keptV_line hj k
      rw [e] at this
      exact Or.inr this
  · have := keptV_line hj (k2 (by rw [show ((b.toNat / 8 : Nat) : Int) = b / 8 by omega]; exact m))
    rw [e] at this
    exact this
theorem lk_fence {P N T : Nat} {s : MSt} (h : LOk P N T s) (t : Int) : LOk P N T (s.fence t) ∧ (∀ b, peekV (s.fence t) b = peekV s b) ∧ (∀ b, 0 ≤ b → b < (N : Int) * 8 → (keptV (s.fence t) b = keptV s b ∨ keptV (s.fence t) b = peekV s b) ∧ (0 ≤ t → t < (T : Int) → b / 8 ∈ flN s t → keptV (s.fence t) b = peekV s b)) ∧ (∀ t' : Int, 0 ≤ t' → 0 ≤ t → t' ≠ t → flN (s.fence t) t' = flN s t') := by
  have ed : (s.fence t).dev = s.dev.fence t := rfl
  have ep : (s.fence t).pas = s.pas := rfl
  by_cases hv : 0 ≤ t ∧ t < (s.dev.T : Int)
  · have e1 : s.dev.fence t = { s.dev.backs (s.dev.fl.getD t.toNat []) with fl := s.dev.fl.set t.toNat [] } := by unfold DSt.fence; rw [if_pos hv]
    rw [e1] at ed
    have hN := h.ok.n
    have hB := backs_big (s.dev.fl.getD t.toNat []) s.dev h.big (by rw [hN]; exact h.rng t.toNat)
    have en := backs_n (s.dev.fl.getD t.toNat []) s.dev
    have eT := backs_T (s.dev.fl.getD t.toNat []) s.dev
    have es := backs_seen (s.dev.fl.getD t.toNat []) s.dev
    have k1 : (s.fence t).dev.kept = (s.dev.backs (s.dev.fl.getD t.toNat [])).kept := by rw [ed]
    have k2 : (s.fence t).dev.seen = s.dev.seen := by rw [ed]; exact es
    have k3 : (s.fence t).dev.n = s.dev.n := by rw [ed]; exact en
    have k4 : (s.fence t).dev.fl = s.dev.fl.set t.toNat [] := by rw [ed]
    have k5 : (s.fence t).dev.T = s.dev.T := by rw [ed]; exact eT
    refine ⟨⟨⟨by rw [ep]; exact h.ok.p, by rw [k3]; exact hN, by rw [k2, k3]; exact h.ok.l⟩, by rw [k1, hB.k, en, hN], by rw [k5]; exact h.td, by rw [k4, List.length_set]; exact h.lf, fun t' q m => ?_⟩, fun b => ?_, fun b h0 h1 => ?_, fun t' n1 n2 hne => ?_⟩
    · rw [k4] at m
      by_cases e : t' = t.toNat
      · rw [e, getD_set_eq _ _ _ (by have := h.lf; have := h.td; omega)] at m
        cases m
      · rw [getD_set_ne _ _ _ e] at m
        exact h.rng t' q m
    · unfold peekV loadV
      rw [k2, k3, ep]
    · have key := lk_backs h (s.dev.fl.getD t.toNat []) (h.rng t.toNat) h0 h1
      unfold keptV at key ⊢
      rw [k1]
      exact ⟨key.1, fun _ _ m => key.2 m⟩
    · unfold flN
      rw [k4, getD_set_ne _ _ _ (by omega)]
  · have e1 : s.dev.fence t = s.dev := by unfold DSt.fence; rw [if_neg hv]
    rw [e1] at ed
    refine ⟨⟨h.ok.same ed ep, by rw [ed]; exact h.k, by rw [ed]; exact h.td, by rw [ed]; exact h.lf, by rw [ed]; exact h.rng⟩, fun b => peekV_eq ed ep b, fun b h0 h1 => ⟨Or.inl (by unfold keptV; rw [ed]), fun a1 a2 => absurd ⟨a1, by rw [h.td]; exact a2⟩ hv⟩, fun t' _ _ _ => by unfold flN; rw [ed]⟩
theorem dirty_so (v : Int) : BM.dirtyB (soN v) = true := by
  unfold BM.dirtyB soN
  rw [show (v % 9223372036854775808 + 9223372036854775808) / 9223372036854775808 = 1 by omega]
  rfl
/-- Several Sets at one word, all from a link of nothing, to unlike ones: who has put its own. -/
def linkN (t : Nat) : Int := (t : Int) + 1
theorem linkN_cl {t : Nat} (h : t ≤ 1000) : clN (linkN t) = linkN t := by unfold clN linkN; omega
def setS (t : Nat) (x : LsM) (s : MSt) : LsM × MSt := lsS t 20 (soN (linkN t)) (clN 0) x s
def Lose (x : LsM) : Prop := x.put = false ∧ x.part = 0
/-- How the one goes on that has put its own. -/
def Win (j : Nat) (x : LsM) (s : MSt) : Prop := x.put = true ∧ ((x.dn = false ∧ x.part = 1 ∧ peekV s 20 = soN (linkN j)) ∨ (x.dn = false ∧ x.part = 2 ∧ peekV s 20 = soN (linkN j) ∧ (2 : Int) ∈ flN s j) ∨ (x.dn = false ∧ x.part = 3 ∧ peekV s 20 = soN (linkN j) ∧ keptV s 20 = soN (linkN j)) ∨ (x.dn = true ∧ peekV s 20 = linkN j ∧ keptV s 20 = soN (linkN j)))
structure WI (P N T : Nat) (hs : List LsM) (won : Option Nat) (s : MSt) : Prop where
  ok : LOk P N T s
  len : hs.length = T
  no : won = none → peekV s 20 = 0 ∧ ∀ (t : Nat) (x : LsM), hs[t]? = some x → Lose x ∧ x.dn = false
  yes : ∀ j, won = some j → j < T ∧ ∀ (t : Nat) (x : LsM), hs[t]? = some x → if t = j then Win j x s else Lose x
theorem set_get9 {α : Type} (l : List α) (t t' : Nat) (v : α) (h : t < l.length) : (l.set t v)[t']? = if t' = t then some v else l[t']? := by
  rw [List.getElem?_set]
  by_cases e : t' = t
  · subst e
    rw [if_pos rfl, if_pos rfl, if_pos h]
  · rw [if_neg (fun x => e x.symm), if_neg e]
theorem WI.step {P N T : Nat} {hs : List LsM} {won : Option Nat} {s : MSt} (h : WI P N T hs won s) (hN : 3 ≤ N) (hT : T ≤ 1000) {t : Nat} {x : LsM} (e : hs[t]? = some x) :
    WI P N T (hs.set t (setS t x s).1) (some (won.getD t)) (setS t x s).2 ∧ (setS t x s).1.put = decide (won.getD t = t) := by
  have hlt : t < hs.length := (List.getElem?_eq_some_iff.1 e).1
  have htT : t < T := by rw [← h.len]; exact hlt
  have hb : ∀ {s'}, MOk P N s' → peekB s' 20 = true := fun ok => ok.is (by omega) (by omega)
  have c0 : clN 0 = 0 := rfl
  have hmk : ∀ (y : LsM) (s' : MSt) (j : Nat), LOk P N T s' → j < T → (if t = j then Win j y s' else Lose y) → (∀ (t' : Nat) (x' : LsM), t' ≠ t → hs[t']? = some x' → if t' = j then Win j x' s' else Lose x') → WI P N T (hs.set t y) (some j) s' := fun y s' j ok hj hy ho =>
    ⟨ok, by rw [List.length_set]; exact h.len, fun e => (by cases e), fun j' ej => by
      injection ej with ej
      subst ej
      refine ⟨hj, fun t' x' e' => ?_⟩
      rw [set_get9 _ _ _ _ hlt] at e'
      by_cases et : t' = t
      · rw [if_pos et] at e'
        injection e' with e'
        subst e' et
        exact hy
      · rw [if_neg et] at e'
        exact ho t' x' et e'⟩
  obtain ⟨part, wh, dn, put, wr⟩ := x
  cases won with
  | none =>
    obtain ⟨hp, hx⟩ := h.no rfl
    obtain ⟨⟨h1, h2⟩, h3⟩ := hx t _ e
    simp only at h1 h2 h3
    subst h1 h2 h3
    have sb : swapB s 20 (clN 0) = true := by rw [swapB_is (hb h.ok.ok), hp]; rfl
    have e1 : setS t ⟨0, wh, false, false, wr⟩ s = (⟨1, (s.swap t 20 (clN 0) (soN (linkN t))).clock, false, true, writesV (s.swap t 20 (clN 0) (soN (linkN t))).dev 20⟩, s.swap t 20 (clN 0) (soN (linkN t))) := by
      show lsS t 20 (soN (linkN t)) (clN 0) ⟨0, wh, false, false, wr⟩ s = _
      unfold lsS
      rw [if_neg (fun e : (false : Bool) = true => by cases e), if_pos rfl, if_pos sb]
    rw [e1]
    refine ⟨hmk _ _ _ (h.ok.swap _ _ _ _) htT ?_ (fun t' x' ne e' => ?_), ?_⟩
    · show if t = t then _ else _
      rw [if_pos rfl]
      exact ⟨rfl, Or.inl ⟨rfl, rfl, by rw [peekV_swap h.ok.ok (hb h.ok.ok), if_pos ⟨rfl, hp⟩]; rfl⟩⟩
    · show if t' = t then _ else _
      rw [if_neg ne]
      exact (hx t' x' e').1
    · show true = decide (t = t)
      simp
  | some j =>
    obtain ⟨hj, hx⟩ := h.yes j rfl
    have ho : ∀ (s' : MSt), (∀ (x' : LsM), hs[j]? = some x' → t ≠ j → Win j x' s → Win j x' s') → ∀ (t' : Nat) (x' : LsM), t' ≠ t → hs[t']? = some x' → if t' = j then Win j x' s' else Lose x' := fun s' k t' x' ne e' => by
      have := hx t' x' e'
      by_cases et : t' = j
      · rw [if_pos et] at this ⊢
        subst et
        exact k x' e' (fun e => ne e.symm) this
      · rw [if_neg et] at this ⊢
        exact this
    have hme := hx t _ e
    show WI P N T _ (some j) _ ∧ _ = decide (j = t)
    by_cases etj : t = j
    · rw [if_pos etj] at hme
      subst etj
      obtain ⟨hput, hw⟩ := hme
      simp only at hput hw
      subst hput
      have hoo : ∀ s', ∀ (t' : Nat) (x' : LsM), t' ≠ t → hs[t']? = some x' → if t' = t then Win t x' s' else Lose x' := fun s' => ho s' (fun _ _ ne => absurd rfl ne)
      have dt : (true : Bool) = decide (t = t) := by simp
      rcases hw with ⟨hd, hp, hv⟩ | ⟨hd, hp, hv, hf⟩ | ⟨hd, hp, hv, hk⟩ | ⟨hd, hv, hk⟩
      · subst hd hp
        have e1 : setS t ⟨1, wh, false, true, wr⟩ s = (⟨2, wh, false, true, wr⟩, s.flush t 20) := rfl
        rw [e1]
        obtain ⟨f1, f2, f3, f4, f5, f6⟩ := lk_flush h.ok t 20
        refine ⟨hmk _ _ _ f1 hj ?_ (hoo _), dt⟩
        rw [if_pos rfl]
        exact ⟨rfl, Or.inr (Or.inl ⟨rfl, rfl, (f2 20).trans hv, f6 (by omega) (by omega) (by omega) (by omega)⟩)⟩
      · subst hd hp
        have e1 : setS t ⟨2, wh, false, true, wr⟩ s = (⟨3, wh, false, true, wr⟩, s.fence t) := rfl
        rw [e1]
        obtain ⟨f1, f2, f3, f4⟩ := lk_fence h.ok t
        refine ⟨hmk _ _ _ f1 hj ?_ (hoo _), dt⟩
        rw [if_pos rfl]
        exact ⟨rfl, Or.inr (Or.inr (Or.inl ⟨rfl, rfl, (f2 20).trans hv, ((f3 20 (by omega) (by omega)).2 (by omega) (by omega) hf).trans hv⟩))⟩
      · subst hd hp
        have e1 : setS t ⟨3, wh, false, true, wr⟩ s = (⟨3, wh, true, true, wr⟩, s.swap t 20 (soN (linkN t)) (clN (soN (linkN t)))) := rfl
        rw [e1]
        refine ⟨hmk _ _ _ (h.ok.swap _ _ _ _) hj ?_ (hoo _), dt⟩
        rw [if_pos rfl]
        refine ⟨rfl, Or.inr (Or.inr (Or.inr ⟨rfl, ?_, ?_⟩))⟩
        · rw [peekV_swap h.ok.ok (hb h.ok.ok), if_pos ⟨rfl, hv⟩, clN_so, linkN_cl (by omega)]
        · rw [(SeenOnly.swap _ _ _ _ _).kept]; exact hk
      · subst hd
        have e1 : setS t ⟨part, wh, true, true, wr⟩ s = (⟨part, wh, true, true, wr⟩, s) := rfl
        rw [e1]
        refine ⟨hmk _ _ _ h.ok hj ?_ (hoo _), dt⟩
        rw [if_pos rfl]
        exact ⟨rfl, Or.inr (Or.inr (Or.inr ⟨rfl, hv, hk⟩))⟩
    · rw [if_neg etj] at hme
      obtain ⟨h1, h2⟩ := hme
      simp only at h1 h2
      subst h1 h2
      have dt : (false : Bool) = decide (j = t) := by simp; exact fun e => etj e.symm
      have hpn : peekV s 20 ≠ 0 := by
        obtain ⟨x', ex'⟩ : ∃ x', hs[j]? = some x' := ⟨_, List.getElem?_eq_getElem (by rw [h.len]; exact hj)⟩
        have hw := hx j x' ex'
        rw [if_pos rfl] at hw
        have a1 : soN (linkN j) ≠ 0 := by unfold soN; omega
        have a2 : linkN j ≠ 0 := by unfold linkN; omega
        rcases hw.2 with ⟨_, _, hv⟩ | ⟨_, _, hv, _⟩ | ⟨_, _, hv, _⟩ | ⟨_, hv, _⟩ <;> rw [hv] <;> assumption
      cases dn
      · have sb : ¬ swapB s 20 (clN 0) = true := by rw [swapB_is (hb h.ok.ok), c0]; simpa using hpn
        have e1 : setS t ⟨0, wh, false, false, wr⟩ s = (⟨0, wh, true, false, wr⟩, s.swap t 20 (clN 0) (soN (linkN t))) := by
          show lsS t 20 (soN (linkN t)) (clN 0) ⟨0, wh, false, false, wr⟩ s = _
          unfold lsS
          rw [if_neg (fun e : (false : Bool) = true => by cases e), if_pos rfl, if_neg sb]
        rw [e1]
        have pv : ∀ b, peekV (s.swap t 20 (clN 0) (soN (linkN t))) b = peekV s b := fun b => by
          rw [peekV_swap h.ok.ok (hb h.ok.ok), if_neg (fun c => hpn (c.2.trans c0))]
        have so := SeenOnly.swap s t 20 (clN 0) (soN (linkN t))
        refine ⟨hmk _ _ _ (h.ok.swap _ _ _ _) hj ?_ (ho _ (fun x' _ _ hw => ?_)), dt⟩
        · rw [if_neg etj]; exact ⟨rfl, rfl⟩
        · unfold Win at hw ⊢
          rw [pv, so.kept, so.fls]
          exact hw
      · have e1 : setS t ⟨0, wh, true, false, wr⟩ s = (⟨0, wh, true, false, wr⟩, s) := rfl
        rw [e1]
        refine ⟨hmk _ _ _ h.ok hj ?_ (ho _ (fun x' _ _ hw => hw)), dt⟩
        rw [if_neg etj]; exact ⟨rfl, rfl⟩
theorem WI.zero {t s l b : Nat} : WI (2 + t + s) (wN t s l b) t (List.replicate t ⟨0, 0, false, false, 0⟩) none (startSt t s l b) :=
  ⟨LOk.start t s l b, by simp, fun _ => ⟨start_peek t s l b 20, fun t' x e => by
    rw [List.getElem?_replicate] at e
    split at e
    · injection e with e; subst e; exact ⟨⟨rfl, rfl⟩, rfl⟩
    · cases e⟩, fun j e => by cases e⟩
/-- What a thread does: nothing; it loads a word; it is about to put a number where one is; it lets one last. -/
inductive AH where
  | idle : AH
  | load : Int → AH
  | fresh : Int → Int → Int → AH
  | pend : Bool → Int → Int → Int → AH
def AH.fr : AH → Option Int
  | .fresh _ _ n => some n
  | _ => none
def AH.wd : AH → Option Int
  | .fresh _ _ n => some n
  | .pend _ _ _ c => some c
  | _ => none
def KH (i : Int) (s : MSt) (t : Nat) : AH → Prop
  | .idle => True
  | .load a => 20 ≤ a ∧ a < 28
  | .fresh a _ n => (20 ≤ a ∧ a < 28) ∧ (0 ≤ n ∧ n < 9223372036854775808) ∧ n ≤ i ∧ ∀ k, 20 ≤ k → k < 28 → clN (peekV s k) ≠ n
  | .pend _ a p c => (20 ≤ a ∧ a < 28) ∧ (0 ≤ c ∧ c < 9223372036854775808) ∧ c ≤ i ∧ (p = 1 ∨ p = 2 ∨ p = 3) ∧ (p = 2 → a / 8 ∈ flN s t) ∧ (p = 3 → clN (peekV s a) = c → clN (keptV s a) = c)
structure KI (P N T : Nat) (hs : List AH) (i : Int) (s : MSt) : Prop where
  ok : LOk P N T s
  len : hs.length = T
  num : ∀ k, 20 ≤ k → k < 28 → W64 (peekV s k) ∧ clN (peekV s k) ≤ i
  cle : ∀ k, 20 ≤ k → k < 28 → BM.dirtyB (peekV s k) = false → clN (keptV s k) = peekV s k
  each : ∀ (t : Nat) (h : AH), hs[t]? = some h → KH i s t h
  apart : ∀ (t t' : Nat) (h h' : AH) (n : Int), hs[t]? = some h → hs[t']? = some h' → t ≠ t' → h.fr = some n → h'.wd ≠ some n
def kS (t : Nat) (h : AH) (s : MSt) : AH × MSt :=
  match h with
  | .idle => (.idle, s)
  | .load a => (if BM.dirtyB (peekV s a) = true then .pend true a 1 (clN (peekV s a)) else .idle, s.load t a)
  | .fresh a o n => (if swapB s a o = true then .pend false a 1 n else .idle, s.swap t a o (soN n))
  | .pend r a p c => if p = 1 then (.pend r a 2 c, s.flush t a) else if p = 2 then (.pend r a 3 c, s.fence t) else (if r = true then .load a else .idle, s.swap t a (soN c) (clN (soN c)))
theorem clN_id {x : Int} (h : W64 x) (hd : BM.dirtyB x = false) : clN x = x := by
  unfold BM.dirtyB at hd
  rw [beq_eq_false_iff_ne] at hd
  obtain ⟨h0, h1⟩ := h
  unfold clN
  omega
theorem clN_num {c : Int} (h : 0 ≤ c ∧ c < 9223372036854775808) : clN (soN c) = c := by unfold clN soN; omega
theorem KH.frame {i i' : Int} {s s' : MSt} {t : Nat} {h : AH} (k : KH i s t h) (hi : i ≤ i') (pv : ∀ k, 20 ≤ k → k < 28 → clN (peekV s' k) = clN (peekV s k)) (kv : ∀ k, 20 ≤ k → k < 28 → keptV s' k = keptV s k ∨ keptV s' k = peekV s k) (fl : ∀ q, q ∈ flN s t → q ∈ flN s' t) : KH i' s' t h := by
  cases h with
  | idle => trivial
  | load a => exact k
  | fresh a o n =>
    obtain ⟨h1, h2, h3, h4⟩ := k
    exact ⟨h1, h2, by omega, fun k k0 k1 => by rw [pv k k0 k1]; exact h4 k k0 k1⟩
  | pend r a p c =>
    obtain ⟨h1, h2, h3, h4, h5, h6⟩ := k
    refine ⟨h1, h2, by omega, h4, fun e => fl _ (h5 e), fun e e2 => ?_⟩
    rw [pv a h1.1 h1.2] at e2
    rcases kv a h1.1 h1.2 with e3 | e3
    · rw [e3]; exact h6 e e2
    · rw [e3]; exact e2
/-- Where one thread's doing changes, the others' stays. -/
theorem KI.turn {P N T : Nat} {hs : List AH} {i i' : Int} {s s' : MSt} (h : KI P N T hs i s) {t : Nat} {x y : AH} (e : hs[t]? = some x) (hi : i ≤ i') (ok : LOk P N T s') (num : ∀ k, 20 ≤ k → k < 28 → W64 (peekV s' k) ∧ clN (peekV s' k) ≤ i') (cle : ∀ k, 20 ≤ k → k < 28 → BM.dirtyB (peekV s' k) = false → clN (keptV s' k) = peekV s' k)
    (hy : KH i' s' t y) (oth : ∀ (t' : Nat) (z : AH), t' ≠ t → hs[t']? = some z → KH i' s' t' z) (a1 : ∀ n, y.fr = some n → ∀ (t' : Nat) (z : AH), t' ≠ t → hs[t']? = some z → z.wd ≠ some n) (a2 : ∀ n, y.wd = some n → ∀ (t' : Nat) (z : AH), t' ≠ t → hs[t']? = some z → z.fr ≠ some n) : KI P N T (hs.set t y) i' s' := by
  have hlt : t < hs.length := (List.getElem?_eq_some_iff.1 e).1
  have get : ∀ (t' : Nat) (z : AH), (hs.set t y)[t']? = some z → (t' = t ∧ z = y) ∨ (t' ≠ t ∧ hs[t']? = some z) := fun t' z e' => by
    rw [set_get9 _ _ _ _ hlt] at e'
    by_cases et : t' = t
    · rw [if_pos et] at e'
      injection e' with e'
      exact Or.inl ⟨et, e'.symm⟩
    · rw [if_neg et] at e'
      exact Or.inr ⟨et, e'⟩
  refine ⟨ok, by rw [List.length_set]; exact h.len, num, cle, fun t' z e' => ?_, fun t1 t2 z1 z2 n e1 e2 ne f1 => ?_⟩
  · rcases get t' z e' with ⟨rfl, rfl⟩ | ⟨ne, e'⟩
    · exact hy
    · exact oth t' z ne e'
  · rcases get t1 z1 e1 with ⟨c1, c2⟩ | ⟨c1, c2⟩ <;> rcases get t2 z2 e2 with ⟨c3, c4⟩ | ⟨c3, c4⟩
    · omega
    · subst c2
      exact a1 n f1 t2 z2 c3 c4
    · subst c4
      intro w
      exact a2 n w t1 z1 c1 c2 f1
    · exact h.apart t1 t2 z1 z2 n c2 c4 ne f1
theorem KI.step {P N T : Nat} {hs : List AH} {i : Int} {s : MSt} (h : KI P N T hs i s) (hN : 4 ≤ N) (hT : T ≤ 1000) {t : Nat} {x : AH} (e : hs[t]? = some x) : KI P N T (hs.set t (kS t x s).1) i (kS t x s).2 := by
  have hlt : t < T := by rw [← h.len]; exact (List.getElem?_eq_some_iff.1 e).1
  have hb : ∀ {s' a}, MOk P N s' → 20 ≤ a → a < 28 → peekB s' a = true := fun ok a0 a1 => ok.is (by omega) (by omega)
  have hx := h.each t x e
  have f1' : ∀ n, x.fr = some n → ∀ (t' : Nat) (z : AH), t' ≠ t → hs[t']? = some z → z.wd ≠ some n := fun n hn t' z ne e' => h.apart t t' x z n e e' (fun c => ne c.symm) hn
  have f2' : ∀ n, x.wd = some n → ∀ (t' : Nat) (z : AH), t' ≠ t → hs[t']? = some z → z.fr ≠ some n := fun n hn t' z ne e' c => h.apart t' t z x n e' e ne c hn
  cases x with
  | idle => exact h.turn e (Int.le_refl _) h.ok h.num h.cle trivial (fun t' z _ e' => h.each t' z e') (fun n c => by cases c) (fun n c => by cases c)
  | load a =>
    have so := SeenOnly.load s t a
    have pv := fun b => peekV_load s t a b
    have oth : ∀ (t' : Nat) (z : AH), t' ≠ t → hs[t']? = some z → KH i (s.load t a) t' z := fun t' z _ e' => (h.each t' z e').frame (Int.le_refl _) (fun k _ _ => by rw [pv]) (fun k _ _ => Or.inl (so.kept k)) (fun q m => by rw [so.fls]; exact m)
    have num : ∀ k, 20 ≤ k → k < 28 → W64 (peekV (s.load t a) k) ∧ clN (peekV (s.load t a) k) ≤ i := fun k k0 k1 => by rw [pv]; exact h.num k k0 k1
    have cle : ∀ k, 20 ≤ k → k < 28 → BM.dirtyB (peekV (s.load t a) k) = false → clN (keptV (s.load t a) k) = peekV (s.load t a) k := fun k k0 k1 d => by rw [pv, so.kept] at *; exact h.cle k k0 k1 d
    by_cases hd : BM.dirtyB (peekV s a) = true
    · have e1 : kS t (.load a) s = (.pend true a 1 (clN (peekV s a)), s.load t a) := by
        show ((if BM.dirtyB (peekV s a) = true then AH.pend true a 1 (clN (peekV s a)) else .idle), s.load t a) = _
        rw [if_pos hd]
      rw [e1]
      refine h.turn e (Int.le_refl _) (h.ok.load _ _) num cle ⟨hx, ?_, (h.num a hx.1 hx.2).2, Or.inl rfl, fun c => absurd c (by decide), fun c => absurd c (by decide)⟩ oth (fun n c => by cases c) (fun n c t' z ne e' c2 => ?_)
      · unfold clN; omega
      · injection c with c
        have := h.each t' z e'
        cases z with
        | fresh a' o' n' =>
          injection c2 with c2
          exact this.2.2.2 a hx.1 hx.2 (by rw [c, c2])
        | _ => cases c2
    · have e1 : kS t (.load a) s = (.idle, s.load t a) := by
        show ((if BM.dirtyB (peekV s a) = true then AH.pend true a 1 (clN (peekV s a)) else .idle), s.load t a) = _
        rw [if_neg hd]
      rw [e1]
      exact h.turn e (Int.le_refl _) (h.ok.load _ _) num cle trivial oth (fun n c => by cases c) (fun n c => by cases c)
  | fresh a o n =>
    obtain ⟨ha, hn, hni, hnk⟩ := hx
    have so := SeenOnly.swap s t a o (soN n)
    have pk := peekV_swap h.ok.ok (hb h.ok.ok ha.1 ha.2) t o (soN n)
    by_cases hd : swapB s a o = true
    · have e1 : kS t (.fresh a o n) s = (.pend false a 1 n, s.swap t a o (soN n)) := by
        show ((if swapB s a o = true then AH.pend false a 1 n else .idle), s.swap t a o (soN n)) = _
        rw [if_pos hd]
      rw [e1]
      have ho : peekV s a = o := by rw [swapB_is (hb h.ok.ok ha.1 ha.2)] at hd; simpa using hd
      have pv : ∀ b, peekV (s.swap t a o (soN n)) b = if b = a then soN n else peekV s b := fun b => by
        rw [pk]
        by_cases c : b = a
        · rw [if_pos c, if_pos ⟨c, ho⟩]
        · rw [if_neg c, if_neg (fun c2 => c c2.1)]
      refine h.turn e (Int.le_refl _) (h.ok.swap _ _ _ _) (fun k k0 k1 => ?_) (fun k k0 k1 d => ?_) ⟨ha, hn, hni, Or.inl rfl, fun c => absurd c (by decide), fun c => absurd c (by decide)⟩ (fun t' z ne e' => ?_) (fun n c => by cases c) (fun n' c t' z ne e' => ?_)
      · rw [pv]
        split
        · exact ⟨soN_rng n, by rw [clN_num hn]; exact hni⟩
        · exact h.num k k0 k1
      · rw [pv] at d ⊢
        rw [so.kept]
        split
        · rename_i c
          rw [if_pos c, dirty_so] at d
          cases d
        · rename_i c
          rw [if_neg c] at d
          exact h.cle k k0 k1 d
      · have kz := h.each t' z e'
        have nz := f1' n rfl t' z ne e'
        cases z with
        | idle => trivial
        | load a' => exact kz
        | fresh a' o' n' =>
          obtain ⟨h1, h2, h3, h4⟩ := kz
          refine ⟨h1, h2, h3, fun k k0 k1 => ?_⟩
          rw [pv]
          split
          · rw [clN_num hn]
            intro c
            exact nz (by rw [c]; rfl)
          · exact h4 k k0 k1
        | pend r a' p c =>
          obtain ⟨h1, h2, h3, h4, h5, h6⟩ := kz
          refine ⟨h1, h2, h3, h4, fun e2 => by rw [so.fls]; exact h5 e2, fun e2 e3 => ?_⟩
          rw [pv] at e3
          split at e3
          · rw [clN_num hn] at e3
            exact absurd (by rw [e3]; rfl) nz
          · rw [so.kept]
            exact h6 e2 e3
      · injection c with c
        subst c
        intro c2
        exact f2' n rfl t' z ne e' c2
    · have e1 : kS t (.fresh a o n) s = (.idle, s.swap t a o (soN n)) := by
        show ((if swapB s a o = true then AH.pend false a 1 n else .idle), s.swap t a o (soN n)) = _
        rw [if_neg hd]
      rw [e1]
      have ho : peekV s a ≠ o := by rw [swapB_is (hb h.ok.ok ha.1 ha.2)] at hd; simpa using hd
      have pv : ∀ b, peekV (s.swap t a o (soN n)) b = peekV s b := fun b => by rw [pk, if_neg (fun c => ho c.2)]
      exact h.turn e (Int.le_refl _) (h.ok.swap _ _ _ _) (fun k k0 k1 => by rw [pv]; exact h.num k k0 k1) (fun k k0 k1 d => by rw [pv, so.kept] at *; exact h.cle k k0 k1 d) trivial (fun t' z ne e' => (h.each t' z e').frame (Int.le_refl _) (fun k _ _ => by rw [pv]) (fun k _ _ => Or.inl (so.kept k)) (fun q m => by rw [so.fls]; exact m)) (fun n c => by cases c) (fun n c => by cases c)
  | pend r a p c =>
    obtain ⟨ha, hc, hci, hp, hq, hk⟩ := hx
    rcases hp with rfl | rfl | rfl
    · have e1 : kS t (.pend r a 1 c) s = (.pend r a 2 c, s.flush t a) := rfl
      rw [e1]
      obtain ⟨g1, g2, g3, g4, g5, g6⟩ := lk_flush h.ok t a
      exact h.turn e (Int.le_refl _) g1 (fun k k0 k1 => by rw [g2]; exact h.num k k0 k1) (fun k k0 k1 d => by rw [g2, g3] at *; exact h.cle k k0 k1 d) ⟨ha, hc, hci, Or.inr (Or.inl rfl), fun _ => g6 (by omega) (by omega) (by omega) (by omega), fun c => absurd c (by decide)⟩ (fun t' z ne e' => (h.each t' z e').frame (Int.le_refl _) (fun k _ _ => by rw [g2]) (fun k _ _ => Or.inl (g3 k)) (fun q m => g4 _ q m)) (fun n c => by cases c) (fun n e2 t' z ne e' => f2' n e2 t' z ne e')
    · have e1 : kS t (.pend r a 2 c) s = (.pend r a 3 c, s.fence t) := rfl
      rw [e1]
      obtain ⟨g1, g2, g3, g4⟩ := lk_fence h.ok t
      refine h.turn e (Int.le_refl _) g1 (fun k k0 k1 => by rw [g2]; exact h.num k k0 k1) (fun k k0 k1 d => ?_) ⟨ha, hc, hci, Or.inr (Or.inr rfl), fun c => absurd c (by decide), fun _ e2 => ?_⟩ (fun t' z ne e' => (h.each t' z e').frame (Int.le_refl _) (fun k _ _ => by rw [g2]) (fun k k0 k1 => (g3 k (by omega) (by omega)).1) (fun q m => by rw [g4 t' (by omega) (by omega) (by omega)]; exact m)) (fun n c => by cases c) (fun n e2 t' z ne e' => f2' n e2 t' z ne e')
      · rw [g2] at d ⊢
        rcases (g3 k (by omega) (by omega)).1 with c1 | c1
        · rw [c1]; exact h.cle k k0 k1 d
        · rw [c1]; exact clN_id (h.num k k0 k1).1 d
      · rw [g2] at e2
        rw [(g3 a (by omega) (by omega)).2 (by omega) (by omega) (hq rfl)]
        exact e2
    · have so := SeenOnly.swap s t a (soN c) (clN (soN c))
      have pk := peekV_swap h.ok.ok (hb h.ok.ok ha.1 ha.2) t (soN c) (clN (soN c))
      have cn := clN_num hc
      have pv : ∀ b, clN (peekV (s.swap t a (soN c) (clN (soN c))) b) = clN (peekV s b) := fun b => by
        rw [pk]
        split
        · rename_i c1
          rw [c1.1, c1.2, clN_cl]
        · rfl
      have num : ∀ k, 20 ≤ k → k < 28 → W64 (peekV (s.swap t a (soN c) (clN (soN c))) k) ∧ clN (peekV (s.swap t a (soN c) (clN (soN c))) k) ≤ i := fun k k0 k1 => by
        refine ⟨?_, by rw [pv]; exact (h.num k k0 k1).2⟩
        rw [pk]
        split
        · exact clN_rng _
        · exact (h.num k k0 k1).1
      have cle : ∀ k, 20 ≤ k → k < 28 → BM.dirtyB (peekV (s.swap t a (soN c) (clN (soN c))) k) = false → clN (keptV (s.swap t a (soN c) (clN (soN c))) k) = peekV (s.swap t a (soN c) (clN (soN c))) k := fun k k0 k1 d => by
        rw [so.kept]
        rw [pk] at d ⊢
        split
        · rename_i c1
          rw [c1.1, cn]
          exact hk rfl (by rw [c1.2, cn])
        · rename_i c1
          rw [if_neg c1] at d
          exact h.cle k k0 k1 d
      have oth : ∀ (t' : Nat) (z : AH), t' ≠ t → hs[t']? = some z → KH i (s.swap t a (soN c) (clN (soN c))) t' z := fun t' z _ e' => (h.each t' z e').frame (Int.le_refl _) (fun k _ _ => pv k) (fun k _ _ => Or.inl (so.kept k)) (fun q m => by rw [so.fls]; exact m)
      cases r
      · exact h.turn e (Int.le_refl _) (h.ok.swap _ _ _ _) num cle trivial oth (fun n c => by cases c) (fun n c => by cases c)
      · exact h.turn e (Int.le_refl _) (h.ok.swap _ _ _ _) num cle ha oth (fun n c => by cases c) (fun n c => by cases c)
theorem KI.up {P N T : Nat} {hs : List AH} {i : Int} {s : MSt} (h : KI P N T hs i s) : KI P N T hs (i + 1) s :=
  ⟨h.ok, h.len, fun k k0 k1 => ⟨(h.num k k0 k1).1, by have := (h.num k k0 k1).2; omega⟩, h.cle, fun t z e => (h.each t z e).frame (by omega) (fun _ _ _ => rfl) (fun _ _ _ => Or.inl rfl) (fun _ m => m), h.apart⟩
theorem KI.zero {t s l b : Nat} : KI (2 + t + s) (wN t s l b) t (List.replicate t .idle) 0 (startSt t s l b) := by
  refine ⟨LOk.start t s l b, by simp, fun k _ _ => by rw [start_peek]; exact ⟨⟨Int.le_refl 0, by show (0 : Int) < _; decide⟩, by decide⟩, fun k _ _ _ => by rw [start_peek, start_kept]; rfl, fun t' z e => ?_, fun t1 t2 z1 z2 n e1 _ _ f => ?_⟩
  · rw [List.getElem?_replicate] at e
    split at e
    · injection e with e; subst e; trivial
    · cases e
  · rw [List.getElem?_replicate] at e1
    split at e1
    · injection e1 with e1; subst e1; cases f
    · cases e1
/-- What a thread has: nothing, a Read, or a Set; its block, its word. -/
inductive LH where
  | off : LH
  | read : Nat → Int → LrM → LH
  | set : Nat → Int → Int → Int → LsM → LH
def LH.dn : LH → Bool
  | .off => true
  | .read _ _ x => x.dn
  | .set _ _ _ _ x => x.dn
def LH.Wf : LH → Prop
  | .off => True
  | .read _ _ x => x.Wf ∧ (x.dn = false → x.part ≠ 0 → soN (clN x.wd) = x.wd)
  | .set _ _ _ _ x => x.part = 0 ∨ x.part = 1 ∨ x.part = 2 ∨ x.part = 3
theorem lrS_fine9 {k : Nat} {t a : Int} {x : LrM} {s : MSt} (hf : Fine k s.dev) (hn : s.dev.n ≤ 90) : Fine (k + 1) (lrS t a x s).2.dev := by
  unfold lrS
  split
  · exact hf.up
  split
  · exact act_fine9 hf hn 1 t a 0 0
  split
  · exact act_fine9 hf hn 4 t a 0 0
  split
  · exact act_fine9 hf hn 5 t 0 0 0
  · exact act_fine9 hf hn 3 t a x.wd (clN x.wd)
theorem lsS_fine9 {k : Nat} {t a wd old : Int} {x : LsM} {s : MSt} (hf : Fine k s.dev) (hn : s.dev.n ≤ 90) : Fine (k + 1) (lsS t a wd old x s).2.dev := by
  unfold lsS
  split
  · exact hf.up
  split
  · exact act_fine9 hf hn 3 t a old wd
  split
  · exact act_fine9 hf hn 4 t a 0 0
  split
  · exact act_fine9 hf hn 5 t 0 0 0
  · exact act_fine9 hf hn 3 t a wd (clN wd)
end Go.Proofs.YtbicloceaddinaaGreat

