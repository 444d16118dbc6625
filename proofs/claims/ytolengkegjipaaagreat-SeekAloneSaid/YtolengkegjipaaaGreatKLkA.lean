/- A device of few lines: what was flushed is few, however long the way; what flushes and fences leave of what is seen. Conditions: those that each theorem names. -/
import Derived.Test.YtolengkegjipaaaGreatKPk
import Derived.Test.YtolengkegjipaaaGreatKFen
namespace Go.Proofs.YtolengkegjipaaaGreat
open Go.ChangeShapes Go.WideShapes Go.ChangeAt Go.RowKit
set_option linter.unusedVariables false
theorem seen_flush (s : DSt) (t l : Int) : (s.flush t l).seen = s.seen ∧ (s.flush t l).n = s.n := by
  unfold DSt.flush
  split <;> exact ⟨rfl, rfl⟩
theorem seen_fence (s : DSt) (t : Int) : (s.fence t).seen = s.seen ∧ (s.fence t).n = s.n := by
  unfold DSt.fence
  split
  · exact ⟨backs_seen _ _, backs_n _ _⟩
  · exact ⟨rfl, rfl⟩
theorem MOk.flush {P N : Nat} {s : MSt} (h : MOk P N s) (t a : Int) : MOk P N (s.flush t a) := by
  obtain ⟨e1, e2⟩ := seen_flush s.dev t (lineNo a)
  exact ⟨h.p, e2.trans h.n, by show (s.dev.flush t (lineNo a)).seen.length = (s.dev.flush t (lineNo a)).n * 8; rw [e1, e2]; exact h.l⟩
theorem MOk.fence {P N : Nat} {s : MSt} (h : MOk P N s) (t : Int) : MOk P N (s.fence t) := by
  obtain ⟨e1, e2⟩ := seen_fence s.dev t
  exact ⟨h.p, e2.trans h.n, by show (s.dev.fence t).seen.length = (s.dev.fence t).n * 8; rw [e1, e2]; exact h.l⟩
theorem sorted_len : ∀ (l : List Int) (lo n : Int), l.Pairwise (· < ·) → (∀ x ∈ l, lo ≤ x ∧ x < n) → lo ≤ n → (l.length : Int) ≤ n - lo
  | [], lo, n, _, _, h => by simp; omega
  | x :: l, lo, n, hs, hr, h => by
    have hx := hr x (by simp)
    have h1 := List.pairwise_cons.1 hs
    have := sorted_len l (x + 1) n h1.2 (fun y hy => ⟨h1.1 y hy, (hr y (by simp [hy])).2⟩) (by omega)
    simp only [List.length_cons]
    omega
theorem Fine.len90 {i : Nat} {s : DSt} (h : Fine i s) (hn : s.n ≤ 90) (t : Nat) : (s.fl.getD t []).length ≤ 90 := by
  have := sorted_len _ 0 s.n (h.srt t) (h.rng t) (by omega)
  omega
theorem Fine.flush9 {i : Nat} {s : DSt} (h : Fine i s) (t l : Int) : Fine (i + 1) (s.flush t l) := by
  unfold DSt.flush
  split
  · rename_i hc
    refine ⟨fun t' => ?_, fun t' y hy => ?_, fun t' => ?_, h.few.mono (by omega)⟩
    · show (((s.fl.set t.toNat _).getD t' []).Pairwise (· < ·))
      rcases getD_set s.fl t.toNat t' (setAdd (s.fl.getD t.toNat []) l) with e | e
      · rw [e]; exact setAdd_sorted _ _ (h.srt _)
      · rw [e]; exact h.srt _
    · have hy' : y ∈ (s.fl.set t.toNat (setAdd (s.fl.getD t.toNat []) l)).getD t' [] := hy
      show 0 ≤ y ∧ y < (s.n : Int)
      rcases getD_set s.fl t.toNat t' (setAdd (s.fl.getD t.toNat []) l) with e | e
      · rw [e] at hy'
        rcases (setAdd_mem _ _ _).1 hy' with rfl | hy'
        · exact ⟨hc.2.2.1, hc.2.2.2⟩
        · exact h.rng _ _ hy'
      · rw [e] at hy'
        exact h.rng _ _ hy'
    · show ((s.fl.set t.toNat _).getD t' []).length ≤ i + 1
      rcases getD_set s.fl t.toNat t' (setAdd (s.fl.getD t.toNat []) l) with e | e
      · rw [e]
        have := setAdd_len (s.fl.getD t.toNat []) l
        have := h.len t.toNat
        omega
      · rw [e]
        have := h.len t'
        omega
  · exact h.up
theorem Fine.fence9 {i : Nat} {s : DSt} (h : Fine i s) (hn9 : s.n ≤ 90) (t : Int) : Fine (i + 1) (s.fence t) := by
  unfold DSt.fence
  split
  · have hn : (s.backs (s.fl.getD t.toNat [])).n = s.n := backs_n _ s
    refine ⟨fun t' => ?_, fun t' y hy => ?_, fun t' => ?_, ?_⟩
    · show (((s.fl.set t.toNat []).getD t' []).Pairwise (· < ·))
      rcases getD_set s.fl t.toNat t' [] with e | e
      · rw [e]; exact List.Pairwise.nil
      · rw [e]; exact h.srt _
    · have hy' : y ∈ (s.fl.set t.toNat []).getD t' [] := hy
      show 0 ≤ y ∧ y < ((s.backs (s.fl.getD t.toNat [])).n : Int)
      rw [hn]
      rcases getD_set s.fl t.toNat t' [] with e | e
      · rw [e] at hy'; cases hy'
      · rw [e] at hy'
        exact h.rng _ _ hy'
    · show ((s.fl.set t.toNat []).getD t' []).length ≤ i + 1
      rcases getD_set s.fl t.toNat t' [] with e | e
      · rw [e]; simp
      · rw [e]
        have := h.len t'
        omega
    · have hl := h.len90 hn9 t.toNat
      exact (backs_few (s.fl.getD t.toNat []) s _ h.few).mono (by omega)
  · exact h.up
theorem act_fine9 {k : Nat} {s : MSt} (hf : Fine k s.dev) (hn : s.dev.n ≤ 90) (kd t a z x : Int) : Fine (k + 1) (s.act kd t a z x).dev := by
  unfold MSt.act
  split
  · unfold MSt.load; split <;> exact hf.up
  split
  · unfold MSt.store; split
    · exact (put_fine0 hf a x).up
    · exact hf.up
  split
  · unfold MSt.swap; split
    · split
      · exact (put_fine0 hf a x).up
      · exact hf.up
    · exact hf.up
  split
  · exact hf.flush9 t (lineNo a)
  split
  · exact hf.fence9 hn t
  split
  · show Fine (k + 1) (s.dev.evict a)
    unfold DSt.evict
    split
    · exact ⟨hf.srt, hf.rng, fun t => by have := hf.len t; show (s.dev.fl.getD t []).length ≤ k + 1; omega, (Few.back hf.few _).mono (by omega)⟩
    · exact hf.up
  · have hg : ∀ t', (List.replicate s.dev.T ([] : List Int)).getD t' [] = [] := fun t' => by
      rw [List.getD_eq_getElem?_getD, List.getElem?_replicate]
      split <;> rfl
    refine ⟨fun t' => ?_, fun t' y hy => ?_, fun t' => ?_, hf.few.mono (by omega)⟩
    · show (((List.replicate s.dev.T ([] : List Int)).getD t' []).Pairwise (· < ·))
      rw [hg]; exact List.Pairwise.nil
    · have hy' : y ∈ (List.replicate s.dev.T ([] : List Int)).getD t' [] := hy
      rw [hg] at hy'; cases hy'
    · show ((List.replicate s.dev.T ([] : List Int)).getD t' []).length ≤ k + 1
      rw [hg]; simp
end Go.Proofs.YtolengkegjipaaaGreat


/- Package link: the states of a Read and of a Set, their steps as functions, and the document's beside them. Conditions: those that each theorem names. -/
namespace Go.Proofs.YtolengkegjipaaaGreat
open Go.ChangeShapes Go.WideShapes Go.ChangeAt Go.RowKit
set_option linter.unusedVariables false
/-- A word, clean; and dirty. -/
def clN (x : Int) : Int := x % 9223372036854775808
def soN (x : Int) : Int := x % 9223372036854775808 + 9223372036854775808
theorem clN_rng (x : Int) : W64 (clN x) := by unfold clN W64; omega
theorem soN_rng (x : Int) : W64 (soN x) := by unfold soN W64; omega
theorem clN_so (x : Int) : clN (soN x) = clN x := by unfold clN soN; omega
/-- How often a word's line was written back. -/
def writesV (s : DSt) (a : Int) : Int := if 0 ≤ a ∧ a < (s.n : Int) * 8 then s.writes.getD (a / 8).toNat 0 else 0
/-- The cells of a machine of package link; behind them its own. -/
def lkC (t a part wd wh : Int) (dn : Bool) (cs : List Value) : List Value := .int .i64 t :: .int .i64 a :: .int .i64 part :: .int .u64 wd :: .int .i64 wh :: .bool dn :: cs
/-- A Read: which part comes next, the word that it has, when, whether it is done. -/
structure LrM where
  part : Int
  wd : Int
  wh : Int
  dn : Bool
def LrM.cells (x : LrM) (t a : Int) : List Value := lkC t a x.part x.wd x.wh x.dn []
structure LrM.Wf (x : LrM) : Prop where
  part : x.part = 0 ∨ x.part = 1 ∨ x.part = 2 ∨ x.part = 3
  wd : W64 x.wd
def lrS (t a : Int) (x : LrM) (s : MSt) : LrM × MSt :=
  if x.dn = true then (x, s)
  else if x.part = 0 then (if BM.dirtyB (peekV s a) = true then ⟨1, peekV s a, x.wh, false⟩ else ⟨0, peekV s a, (s.load t a).clock, true⟩, s.load t a)
  else if x.part = 1 then (⟨2, x.wd, x.wh, false⟩, s.flush t a)
  else if x.part = 2 then (⟨3, x.wd, x.wh, false⟩, s.fence t)
  else (⟨0, x.wd, x.wh, false⟩, s.swap t a x.wd (clN x.wd))
/-- The document's Read. -/
structure RLr where
  line : Int
  got : Int
  wd : Int
  wh : Int
def RLr.cells (r : RLr) (t a : Int) : List Value := [.int .i64 t, .int .i64 a, .int .i64 r.line, .int .u64 r.got, .int .u64 r.wd, .int .i64 r.wh]
structure RLr.Wf (r : RLr) : Prop where
  line : r.line = 0 ∨ r.line = 1 ∨ r.line = 2 ∨ r.line = 3 ∨ r.line = 4
  got : W64 r.got
/-- A Read beside the document's. -/
structure RelR (x : LrM) (r : RLr) : Prop where
  xw : x.Wf
  rw : r.Wf
  line : r.line = if x.dn = true then 0 else x.part + 1
  got : x.part ≠ 0 → r.got = x.wd
  wd : r.wd = if x.dn = true then x.wd else 0
  wh : r.wh = if x.dn = true then x.wh else -1
theorem RelR.zero : RelR ⟨0, 0, 0, false⟩ ⟨1, 0, 0, -1⟩ := ⟨⟨Or.inl rfl, ⟨Int.le_refl 0, by show (0 : Int) < _; decide⟩⟩, ⟨Or.inr (Or.inl rfl), ⟨Int.le_refl 0, by show (0 : Int) < _; decide⟩⟩, rfl, fun h => absurd rfl h, rfl, rfl⟩
theorem lrS_calm {n : Int} {t a : Int} {x : LrM} {s : MSt} (h : CalmN n s) : CalmN (n + 1) (lrS t a x s).2 := by
  unfold lrS
  split
  · exact CalmN.mono h (by omega)
  split
  · exact act_calm h 1 t a 0 0
  split
  · exact act_calm h 4 t a 0 0
  split
  · exact act_calm h 5 t 0 0 0
  · exact act_calm h 3 t a x.wd (clN x.wd)
/-- A Set: which part comes next, when it put the link, whether it is done, whether it put it, how often the line had been written back. -/
structure LsM where
  part : Int
  wh : Int
  dn : Bool
  put : Bool
  wr : Int
def LsM.cells (x : LsM) (t a wd old : Int) : List Value := lkC t a x.part wd x.wh x.dn [.int .u64 old, .bool x.put, .int .i64 x.wr]
def lsS (t a wd old : Int) (x : LsM) (s : MSt) : LsM × MSt :=
  if x.dn = true then (x, s)
  else if x.part = 0 then (if swapB s a old = true then ⟨1, (s.swap t a old wd).clock, false, true, writesV (s.swap t a old wd).dev a⟩ else ⟨0, x.wh, true, false, x.wr⟩, s.swap t a old wd)
  else if x.part = 1 then (⟨2, x.wh, false, x.put, x.wr⟩, s.flush t a)
  else if x.part = 2 then (⟨3, x.wh, false, x.put, x.wr⟩, s.fence t)
  else (⟨3, x.wh, true, x.put, x.wr⟩, s.swap t a wd (clN wd))
/-- The document's Set. -/
structure RLs where
  line : Int
  put : Bool
  wh : Int
  wr : Int
def RLs.cells (r : RLs) (t a old new : Int) : List Value := [.int .i64 t, .int .i64 a, .int .i64 r.line, .int .u64 old, .int .u64 new, .bool r.put, .int .i64 r.wh, .int .i64 r.wr]
/-- A Set beside the document's. -/
structure RelS (x : LsM) (r : RLs) : Prop where
  part : x.part = 0 ∨ x.part = 1 ∨ x.part = 2 ∨ x.part = 3
  line : r.line = if x.dn = true then 0 else x.part + 1
  put : r.put = x.put
  wh : r.wh = if x.put = true then x.wh else -1
  wr : r.wr = x.wr
  no : x.dn = false → x.part = 0 → x.put = false ∧ x.wr = 0
theorem RelS.zero : RelS ⟨0, 0, false, false, 0⟩ ⟨1, false, -1, 0⟩ := ⟨Or.inl rfl, rfl, rfl, rfl, rfl, fun _ _ => ⟨rfl, rfl⟩⟩
theorem lsS_calm {n : Int} {t a wd old : Int} {x : LsM} {s : MSt} (h : CalmN n s) : CalmN (n + 1) (lsS t a wd old x s).2 := by
  unfold lsS
  split
  · exact CalmN.mono h (by omega)
  split
  · exact act_calm h 3 t a old wd
  split
  · exact act_calm h 4 t a 0 0
  split
  · exact act_calm h 5 t 0 0 0
  · exact act_calm h 3 t a wd (clN wd)
theorem lsS_part {t a wd old : Int} {x : LsM} {s : MSt} (h : x.part = 0 ∨ x.part = 1 ∨ x.part = 2 ∨ x.part = 3) : (lsS t a wd old x s).1.part = 0 ∨ (lsS t a wd old x s).1.part = 1 ∨ (lsS t a wd old x s).1.part = 2 ∨ (lsS t a wd old x s).1.part = 3 := by
  unfold lsS
  split
  · exact h
  split
  · by_cases e : swapB s a old = true
    · rw [if_pos e]; exact Or.inr (Or.inl rfl)
    · rw [if_neg e]; exact Or.inl rfl
  split
  · exact Or.inr (Or.inr (Or.inl rfl))
  split
  · exact Or.inr (Or.inr (Or.inr rfl))
  · exact Or.inr (Or.inr (Or.inr rfl))
/-- So many steps of one machine, alone. -/
def stepsL {X : Type} (f : X → MSt → X × MSt) (p : X × MSt) : Nat → X × MSt
  | 0 => p
  | k + 1 => f (stepsL f p k).1 (stepsL f p k).2
end Go.Proofs.YtolengkegjipaaaGreat


/- What is kept of a word behind flushes and fences; Reads and Sets alone, and several between one another (package link). Conditions: those that each theorem names. -/
namespace Go.Proofs.YtolengkegjipaaaGreat
open Go.ChangeShapes Go.WideShapes Go.ChangeAt Go.RowKit
set_option linter.unusedVariables false
/-- What is kept of a word; which words, lines and threads a memory has. -/
def keptV (s : MSt) (a : Int) : Int := s.dev.kept.getD a.toNat 0
def flN (s : MSt) (t : Int) : List Int := s.dev.fl.getD t.toNat []
structure LOk (P N T : Nat) (s : MSt) : Prop where
  ok : MOk P N s
  k : s.dev.kept.length = N * 8
  td : s.dev.T = T
  lf : s.dev.fl.length = T
  rng : ∀ t, ∀ x ∈ s.dev.fl.getD t [], 0 ≤ x ∧ x < (N : Int)
/-- Of the device just what is seen differs. -/
structure SeenOnly (s s' : MSt) : Prop where
  k : s'.dev.kept = s.dev.kept
  td : s'.dev.T = s.dev.T
  lf : s'.dev.fl = s.dev.fl
theorem SeenOnly.put (s : MSt) (a x : Int) : SeenOnly s (s.put a x) := by
  unfold MSt.put DSt.store
  (repeat' split) <;> exact ⟨rfl, rfl, rfl⟩
theorem SeenOnly.load (s : MSt) (t a : Int) : SeenOnly s (s.load t a) := by
  unfold MSt.load
  split <;> exact ⟨rfl, rfl, rfl⟩
theorem SeenOnly.swap (s : MSt) (t a o x : Int) : SeenOnly s (s.swap t a o x) := by
  have h := SeenOnly.put s a x
  unfold MSt.swap
  (repeat' split)
  · exact ⟨h.k, h.td, h.lf⟩
  · exact ⟨rfl, rfl, rfl⟩
  · exact ⟨rfl, rfl, rfl⟩
theorem SeenOnly.store (s : MSt) (t a x : Int) : SeenOnly s (s.store t a x) := by
  have h := SeenOnly.put s a x
  unfold MSt.store
  split
  · exact ⟨h.k, h.td, h.lf⟩
  · exact ⟨rfl, rfl, rfl⟩
theorem SeenOnly.kept {s s' : MSt} (h : SeenOnly s s') (b : Int) : keptV s' b = keptV s b := by unfold keptV; rw [h.k]
theorem LOk.seenOnly {P N T : Nat} {s s' : MSt} (h : LOk P N T s) (o : SeenOnly s s') (ok : MOk P N s') : LOk P N T s' :=
  ⟨ok, by rw [o.k]; exact h.k, by rw [o.td]; exact h.td, by rw [o.lf]; exact h.lf, by rw [o.lf]; exact h.rng⟩
theorem LOk.load {P N T : Nat} {s : MSt} (h : LOk P N T s) (t a : Int) : LOk P N T (s.load t a) := h.seenOnly (SeenOnly.load s t a) (h.ok.load t a)
theorem LOk.swap {P N T : Nat} {s : MSt} (h : LOk P N T s) (t a o x : Int) : LOk P N T (s.swap t a o x) := h.seenOnly (SeenOnly.swap s t a o x) (h.ok.swap t a o x)
theorem LOk.store {P N T : Nat} {s : MSt} (h : LOk P N T s) (t a x : Int) : LOk P N T (s.store t a x) := h.seenOnly (SeenOnly.store s t a x) (h.ok.store t a x)
theorem LOk.big {P N T : Nat} {s : MSt} (h : LOk P N T s) : Big s.dev := ⟨by rw [h.k, h.ok.n], h.ok.l⟩
theorem LOk.start (t s l b : Nat) : LOk (2 + t + s) (wN t s l b) t (startSt t s l b) :=
  ⟨MOk.start t s l b, by simp [startSt, MSt.new, DSt.new], rfl, by simp [startSt, MSt.new, DSt.new], fun t' x m => by
    have e : (startSt t s l b).dev.fl = List.replicate t [] := rfl
    rw [e, List.getD_eq_getElem?_getD, List.getElem?_replicate] at m
    split at m <;> simp at m⟩
theorem LOk.putAll {P N T : Nat} : ∀ {s : MSt} (h : LOk P N T s) (ys : List Put), LOk P N T (putAll s ys)
  | _, h, [] => h
  | _, h, y :: ys => LOk.putAll (h.store 0 y.1 y.2) ys
theorem start_kept (t s l b : Nat) (a : Int) : keptV (startSt t s l b) a = 0 := by
  show (List.replicate (wN t s l b * 8) (0 : Int)).getD a.toNat 0 = 0
  rw [List.getD_eq_getElem?_getD, List.getElem?_replicate]
  split <;> rfl
theorem getD_set_ne {α : Type} (fl : List α) {t t' : Nat} (x d : α) (h : t' ≠ t) : (fl.set t x).getD t' d = fl.getD t' d := by
  rw [List.getD_eq_getElem?_getD, List.getElem?_set_ne (fun e => h e.symm), ← List.getD_eq_getElem?_getD]
theorem getD_set_eq {α : Type} (fl : List α) {t : Nat} (x d : α) (h : t < fl.length) : (fl.set t x).getD t d = x := by
  rw [List.getD_eq_getElem?_getD, List.getElem?_set_self h]
  rfl
/-- A flush: what is seen and kept stays; the word's line is its thread's. -/
theorem lk_flush {P N T : Nat} {s : MSt} (h : LOk P N T s) (t a : Int) : LOk P N T (s.flush t a) ∧ (∀ b, peekV (s.flush t a) b = peekV s b) ∧ (∀ b, keptV (s.flush t a) b = keptV s b) ∧ (∀ t' q, q ∈ flN s t' → q ∈ flN (s.flush t a) t') ∧ (∀ t' q, q ∈ flN (s.flush t a) t' → q ∈ flN s t' ∨ q = a / 8) ∧ (0 ≤ t → t < (T : Int) → 0 ≤ a → a < (N : Int) * 8 → a / 8 ∈ flN (s.flush t a) t) := by
  have ed : (s.flush t a).dev = s.dev.flush t (lineNo a) := rfl
  have ep : (s.flush t a).pas = s.pas := rfl
  by_cases hv : 0 ≤ t ∧ t < s.dev.T ∧ 0 ≤ lineNo a ∧ lineNo a < s.dev.n
  · have e1 : s.dev.flush t (lineNo a) = { s.dev with fl := s.dev.fl.set t.toNat (setAdd (s.dev.fl.getD t.toNat []) (lineNo a)) } := by unfold DSt.flush; rw [if_pos hv]
    rw [e1] at ed
    have hT := h.td
    have hF := h.lf
    have hN := h.ok.n
    have ht : t.toNat < s.dev.fl.length := by omega
    have ha : lineNo a = a / 8 := by
      unfold lineNo at hv ⊢
      split
      · rename_i c
        rw [if_pos c] at hv
        omega
      · rfl
    have hfl : ∀ t' : Nat, (s.flush t a).dev.fl.getD t' [] = if t' = t.toNat then setAdd (s.dev.fl.getD t.toNat []) (a / 8) else s.dev.fl.getD t' [] := fun t' => by
      rw [ed]
      show (s.dev.fl.set t.toNat (setAdd (s.dev.fl.getD t.toNat []) (lineNo a))).getD t' [] = _
      rw [ha]
      by_cases e : t' = t.toNat
      · rw [if_pos e, e, getD_set_eq _ _ _ ht]
      · rw [if_neg e, getD_set_ne _ _ _ e]
    have hmem : ∀ (t' : Nat) (q : Int), q ∈ (s.flush t a).dev.fl.getD t' [] → q ∈ s.dev.fl.getD t' [] ∨ q = a / 8 := fun t' q m => by
      rw [hfl] at m
      split at m
      · rename_i e
        rw [e]
        rcases (setAdd_mem _ _ _).1 m with e2 | e2
        · exact Or.inr e2
        · exact Or.inl e2
      · exact Or.inl m
    refine ⟨⟨⟨by rw [ep]; exact h.ok.p, by rw [ed]; exact h.ok.n, by rw [ed]; exact h.ok.l⟩, by rw [ed]; exact h.k, by rw [ed]; exact h.td, by rw [ed]; show (s.dev.fl.set _ _).length = T; rw [List.length_set]; exact h.lf, fun t' q m => ?_⟩, fun b => ?_, fun b => by unfold keptV; rw [ed], fun t' q m => ?_, fun t' q m => hmem _ _ m, fun _ _ _ _ => ?_⟩
    · rcases hmem t' q m with m | m
      · exact h.rng t' q m
      · rw [m, ← ha]
        rw [hN] at hv
        exact ⟨hv.2.2.1, hv.2.2.2⟩
    · unfold peekV loadV
      rw [ed, ep]
    · show q ∈ (s.flush t a).dev.fl.getD t'.toNat []
      rw [hfl]
      split
      · rename_i e
        rw [e.symm] at *
        exact (setAdd_mem _ _ _).2 (Or.inr m)
      · exact m
    · show a / 8 ∈ (s.flush t a).dev.fl.getD t.toNat []
      rw [hfl, if_pos rfl]
      exact (setAdd_mem _ _ _).2 (Or.inl rfl)
  · have e1 : s.dev.flush t (lineNo a) = s.dev := by unfold DSt.flush; rw [if_neg hv]
    rw [e1] at ed
    refine ⟨⟨h.ok.same ed ep, by rw [ed]; exact h.k, by rw [ed]; exact h.td, by rw [ed]; exact h.lf, by rw [ed]; exact h.rng⟩, fun b => peekV_eq ed ep b, fun b => by unfold keptV; rw [ed], fun t' q m => by unfold flN; rw [ed]; exact m, fun t' q m => by unfold flN at m; rw [ed] at m; exact Or.inl m, fun h0 h1 h2 h3 => absurd ⟨h0, by rw [h.td]; exact h1, ?_, ?_⟩ hv⟩
    · unfold lineNo; rw [if_neg (by omega)]; omega
    · unfold lineNo; rw [if_neg (by omega), h.ok.n]; omega
theorem keptV_line {z z' : List Int} {q j : Nat} (hj : j < 8) (e : lineOf z q = lineOf z' q) : z.getD (q * 8 + j) 0 = z'.getD (q * 8 + j) 0 := by
  rw [List.getD_eq_getElem?_getD, List.getD_eq_getElem?_getD, ← lineOf_get _ _ _ hj, ← lineOf_get _ _ _ hj, e]
theorem peekV_dev {P N : Nat} {s : MSt} (h : MOk P N s) {b : Int} (h0 : 0 ≤ b) (h1 : b < (N : Int) * 8) : peekV s b = s.dev.seen.getD b.toNat 0 := by
  unfold peekV loadV
  rw [if_pos h0, if_pos ⟨h0, by rw [h.n]; exact h1⟩]
/-- Lines are written back: what is kept of a word is as it was, or what is seen; of a line that was written back it is what is seen. -/
theorem lk_backs {P N T : Nat} {s : MSt} (h : LOk P N T s) (l : List Int) (hl : ∀ x ∈ l, 0 ≤ x ∧ x < (N : Int)) {b : Int} (h0 : 0 ≤ b) (h1 : b < (N : Int) * 8) : ((s.dev.backs l).kept.getD b.toNat 0 = keptV s b ∨ (s.dev.backs l).kept.getD b.toNat 0 = peekV s b) ∧ (b / 8 ∈ l → (s.dev.backs l).kept.getD b.toNat 0 = peekV s b) := by
  have hN := h.ok.n
  obtain ⟨k1, k2⟩ := backs_line l s.dev h.big (by rw [hN]; exact hl) (b.toNat / 8) (by omega)
  have hj : b.toNat % 8 < 8 := Nat.mod_lt _ (by decide)
  have e : b.toNat / 8 * 8 + b.toNat % 8 = b.toNat := by omega
  rw [peekV_dev h.ok h0 h1]
  unfold keptV
  refine ⟨?_, fun m => ?_⟩
  · rcases k1 with k | k
    · have := keptV_line hj k
      rw [e] at this
      exact Or.inl this
    · have := keptV_line hj k
      rw [e] at this
      exact Or.inr this
  · have := keptV_line hj (k2 (by rw [show ((b.toNat / 8 : Nat) : Int) = b / 8 by omega]; exact m))
    rw [e] at this
    exact this
theorem lk_fence {P N T : Nat} {s : MSt} (h : LOk P N T s) (t : Int) : LOk P N T (s.fence t) ∧ (∀ b, peekV (s.fence t) b = peekV s b) ∧ (∀ b, 0 ≤ b → b < (N : Int) * 8 → (keptV (s.fence t) b = keptV s b ∨ keptV (s.fence t) b = peekV s b) ∧ (0 ≤ t → t < (T : Int) → b / 8 ∈ flN s t → keptV (s.fence t) b = peekV s b)) ∧ (∀ t' : Int, 0 ≤ t' → 0 ≤ t → t' ≠ t → flN (s.fence t) t' = flN s t') := by
  have ed : (s.fence t).dev = s.dev.fence t := rfl
  have ep : (s.fence t).pas = s.pas := rfl
  by_cases hv : 0 ≤ t ∧ t < (s.dev.T : Int)
  · have e1 : s.dev.fence t = { s.dev.backs (s.dev.fl.getD t.toNat []) with fl := s.dev.fl.set t.toNat [] } := by unfold DSt.fence; rw [if_pos hv]
    rw [e1] at ed
    have hN := h.ok.n
    have hB := backs_big (s.dev.fl.getD t.toNat []) s.dev h.big (by rw [hN]; exact h.rng t.toNat)
    have en := backs_n (s.dev.fl.getD t.toNat []) s.dev
    have eT := backs_T (s.dev.fl.getD t.toNat []) s.dev
    have es := backs_seen (s.dev.fl.getD t.toNat []) s.dev
    have k1 : (s.fence t).dev.kept = (s.dev.backs (s.dev.fl.getD t.toNat [])).kept := by rw [ed]
    have k2 : (s.fence t).dev.seen = s.dev.seen := by rw [ed]; exact es
    have k3 : (s.fence t).dev.n = s.dev.n := by rw [ed]; exact en
    have k4 : (s.fence t).dev.fl = s.dev.fl.set t.toNat [] := by rw [ed]
    have k5 : (s.fence t).dev.T = s.dev.T := by rw [ed]; exact eT
    refine ⟨⟨⟨by rw [ep]; exact h.ok.p, by rw [k3]; exact hN, by rw [k2, k3]; exact h.ok.l⟩, by rw [k1, hB.k, en, hN], by rw [k5]; exact h.td, by rw [k4, List.length_set]; exact h.lf, fun t' q m => ?_⟩, fun b => ?_, fun b h0 h1 => ?_, fun t' n1 n2 hne => ?_⟩
    · rw [k4] at m
      by_cases e : t' = t.toNat
      · rw [e, getD_set_eq _ _ _ (by have := h.lf; have := h.td; omega)] at m
        cases m
      · rw [getD_set_ne _ _ _ e] at m
        exact h.rng t' q m
    · unfold peekV loadV
      rw [k2, k3, ep]
    · have key := lk_backs h (s.dev.fl.getD t.toNat []) (h.rng t.toNat) h0 h1
      unfold keptV at key ⊢
      rw [k1]
      exact ⟨key.1, fun _ _ m => key.2 m⟩
    · unfold flN
      rw [k4, getD_set_ne _ _ _ (by omega)]
  · have e1 : s.dev.fence t = s.dev := by unfold DSt.fence; rw [if_neg hv]
    rw [e1] at ed
    refine ⟨⟨h.ok.same ed ep, by rw [ed]; exact h.k, by rw [ed]; exact h.td, by rw [ed]; exact h.lf, by rw [ed]; exact h.rng⟩, fun b => peekV_eq ed ep b, fun b h0 h1 => ⟨Or.inl (by unfold keptV; rw [ed]), fun a1 a2 => absurd ⟨a1, by rw [h.td]; exact a2⟩ hv⟩, fun t' _ _ _ => by unfold flN; rw [ed]⟩
/-- Several Sets at one word, all from a link of nothing, to unlike ones: who has put its own. -/
def linkN (t : Nat) : Int := (t : Int) + 1
def Lose (x : LsM) : Prop := x.put = false ∧ x.part = 0
/-- How the one goes on that has put its own. -/
def Win (j : Nat) (x : LsM) (s : MSt) : Prop := x.put = true ∧ ((x.dn = false ∧ x.part = 1 ∧ peekV s 20 = soN (linkN j)) ∨ (x.dn = false ∧ x.part = 2 ∧ peekV s 20 = soN (linkN j) ∧ (2 : Int) ∈ flN s j) ∨ (x.dn = false ∧ x.part = 3 ∧ peekV s 20 = soN (linkN j) ∧ keptV s 20 = soN (linkN j)) ∨ (x.dn = true ∧ peekV s 20 = linkN j ∧ keptV s 20 = soN (linkN j)))
structure WI (P N T : Nat) (hs : List LsM) (won : Option Nat) (s : MSt) : Prop where
  ok : LOk P N T s
  len : hs.length = T
  no : won = none → peekV s 20 = 0 ∧ ∀ (t : Nat) (x : LsM), hs[t]? = some x → Lose x ∧ x.dn = false
  yes : ∀ j, won = some j → j < T ∧ ∀ (t : Nat) (x : LsM), hs[t]? = some x → if t = j then Win j x s else Lose x
theorem WI.zero {t s l b : Nat} : WI (2 + t + s) (wN t s l b) t (List.replicate t ⟨0, 0, false, false, 0⟩) none (startSt t s l b) :=
  ⟨LOk.start t s l b, by simp, fun _ => ⟨start_peek t s l b 20, fun t' x e => by
    rw [List.getElem?_replicate] at e
    split at e
    · injection e with e; subst e; exact ⟨⟨rfl, rfl⟩, rfl⟩
    · cases e⟩, fun j e => by cases e⟩
/-- What a thread does: nothing; it loads a word; it is about to put a number where one is; it lets one last. -/
inductive AH where
  | idle : AH
  | load : Int → AH
  | fresh : Int → Int → Int → AH
  | pend : Bool → Int → Int → Int → AH
def AH.fr : AH → Option Int
  | .fresh _ _ n => some n
  | _ => none
def AH.wd : AH → Option Int
  | .fresh _ _ n => some n
  | .pend _ _ _ c => some c
  | _ => none
def KH (i : Int) (s : MSt) (t : Nat) : AH → Prop
  | .idle => True
  | .load a => 20 ≤ a ∧ a < 28
  | .fresh a _ n => (20 ≤ a ∧ a < 28) ∧ (0 ≤ n ∧ n < 9223372036854775808) ∧ n ≤ i ∧ ∀ k, 20 ≤ k → k < 28 → clN (peekV s k) ≠ n
  | .pend _ a p c => (20 ≤ a ∧ a < 28) ∧ (0 ≤ c ∧ c < 9223372036854775808) ∧ c ≤ i ∧ (p = 1 ∨ p = 2 ∨ p = 3) ∧ (p = 2 → a / 8 ∈ flN s t) ∧ (p = 3 → clN (peekV s a) = c → clN (keptV s a) = c)
structure KI (P N T : Nat) (hs : List AH) (i : Int) (s : MSt) : Prop where
  ok : LOk P N T s
  len : hs.length = T
  num : ∀ k, 20 ≤ k → k < 28 → W64 (peekV s k) ∧ clN (peekV s k) ≤ i
  cle : ∀ k, 20 ≤ k → k < 28 → BM.dirtyB (peekV s k) = false → clN (keptV s k) = peekV s k
  each : ∀ (t : Nat) (h : AH), hs[t]? = some h → KH i s t h
  apart : ∀ (t t' : Nat) (h h' : AH) (n : Int), hs[t]? = some h → hs[t']? = some h' → t ≠ t' → h.fr = some n → h'.wd ≠ some n
theorem KH.frame {i i' : Int} {s s' : MSt} {t : Nat} {h : AH} (k : KH i s t h) (hi : i ≤ i') (pv : ∀ k, 20 ≤ k → k < 28 → clN (peekV s' k) = clN (peekV s k)) (kv : ∀ k, 20 ≤ k → k < 28 → keptV s' k = keptV s k ∨ keptV s' k = peekV s k) (fl : ∀ q, q ∈ flN s t → q ∈ flN s' t) : KH i' s' t h := by
  cases h with
  | idle => trivial
  | load a => exact k
  | fresh a o n =>
    obtain ⟨h1, h2, h3, h4⟩ := k
    exact ⟨h1, h2, by omega, fun k k0 k1 => by rw [pv k k0 k1]; exact h4 k k0 k1⟩
  | pend r a p c =>
    obtain ⟨h1, h2, h3, h4, h5, h6⟩ := k
    refine ⟨h1, h2, by omega, h4, fun e => fl _ (h5 e), fun e e2 => ?_⟩
    rw [pv a h1.1 h1.2] at e2
    rcases kv a h1.1 h1.2 with e3 | e3
    · rw [e3]; exact h6 e e2
    · rw [e3]; exact e2
theorem KI.up {P N T : Nat} {hs : List AH} {i : Int} {s : MSt} (h : KI P N T hs i s) : KI P N T hs (i + 1) s :=
  ⟨h.ok, h.len, fun k k0 k1 => ⟨(h.num k k0 k1).1, by have := (h.num k k0 k1).2; omega⟩, h.cle, fun t z e => (h.each t z e).frame (by omega) (fun _ _ _ => rfl) (fun _ _ _ => Or.inl rfl) (fun _ m => m), h.apart⟩
theorem KI.zero {t s l b : Nat} : KI (2 + t + s) (wN t s l b) t (List.replicate t .idle) 0 (startSt t s l b) := by
  refine ⟨LOk.start t s l b, by simp, fun k _ _ => by rw [start_peek]; exact ⟨⟨Int.le_refl 0, by show (0 : Int) < _; decide⟩, by decide⟩, fun k _ _ _ => by rw [start_peek, start_kept]; rfl, fun t' z e => ?_, fun t1 t2 z1 z2 n e1 _ _ f => ?_⟩
  · rw [List.getElem?_replicate] at e
    split at e
    · injection e with e; subst e; trivial
    · cases e
  · rw [List.getElem?_replicate] at e1
    split at e1
    · injection e1 with e1; subst e1; cases f
    · cases e1
/-- What a thread has: nothing, a Read, or a Set; its block, its word. -/
inductive LH where
  | off : LH
  | read : Nat → Int → LrM → LH
  | set : Nat → Int → Int → Int → LsM → LH
def LH.dn : LH → Bool
  | .off => true
  | .read _ _ x => x.dn
  | .set _ _ _ _ x => x.dn
def LH.Wf : LH → Prop
  | .off => True
  | .read _ _ x => x.Wf ∧ (x.dn = false → x.part ≠ 0 → soN (clN x.wd) = x.wd)
  | .set _ _ _ _ x => x.part = 0 ∨ x.part = 1 ∨ x.part = 2 ∨ x.part = 3
theorem lrS_fine9 {k : Nat} {t a : Int} {x : LrM} {s : MSt} (hf : Fine k s.dev) (hn : s.dev.n ≤ 90) : Fine (k + 1) (lrS t a x s).2.dev := by
  unfold lrS
  split
  · exact hf.up
  split
  · exact act_fine9 hf hn 1 t a 0 0
  split
  · exact act_fine9 hf hn 4 t a 0 0
  split
  · exact act_fine9 hf hn 5 t 0 0 0
  · exact act_fine9 hf hn 3 t a x.wd (clN x.wd)
theorem lsS_fine9 {k : Nat} {t a wd old : Int} {x : LsM} {s : MSt} (hf : Fine k s.dev) (hn : s.dev.n ≤ 90) : Fine (k + 1) (lsS t a wd old x s).2.dev := by
  unfold lsS
  split
  · exact hf.up
  split
  · exact act_fine9 hf hn 3 t a old wd
  split
  · exact act_fine9 hf hn 4 t a 0 0
  split
  · exact act_fine9 hf hn 5 t 0 0 0
  · exact act_fine9 hf hn 3 t a wd (clN wd)
end Go.Proofs.YtolengkegjipaaaGreat

