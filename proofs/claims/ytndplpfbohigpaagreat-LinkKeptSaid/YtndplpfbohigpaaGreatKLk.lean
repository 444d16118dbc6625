/- Package link: the states of a Read and of a Set, their steps as functions, and the document's beside them. Conditions: those that each theorem names. -/
import Derived.Test.YtndplpfbohigpaaGreatKPk
import Derived.Deep.RegionHeld3
import Derived.Lib.QuietBelow
import Derived.Deep.DeepCutAuto
namespace Go.Proofs.YtndplpfbohigpaaGreat
open Go.ChangeShapes Go.WideShapes Go.ChangeAt Go.RowKit
set_option linter.unusedVariables false
/-- A word, clean; and dirty. -/
def clN (x : Int) : Int := x % 9223372036854775808
def soN (x : Int) : Int := x % 9223372036854775808 + 9223372036854775808
theorem clN_rng (x : Int) : W64 (clN x) := by unfold clN W64; omega
theorem soN_rng (x : Int) : W64 (soN x) := by unfold soN W64; omega
theorem clN_so (x : Int) : clN (soN x) = clN x := by unfold clN soN; omega
theorem soN_cl (x : Int) : soN (clN x) = soN x := by unfold clN soN; omega
theorem clN_cl (x : Int) : clN (clN x) = clN x := by unfold clN; omega
/-- How often a word's line was written back. -/
def writesV (s : DSt) (a : Int) : Int := if 0 ≤ a ∧ a < (s.n : Int) * 8 then s.writes.getD (a / 8).toNat 0 else 0
/-- The cells of a machine of package link; behind them its own. -/
def lkC (t a part wd wh : Int) (dn : Bool) (cs : List Value) : List Value := .int .i64 t :: .int .i64 a :: .int .i64 part :: .int .u64 wd :: .int .i64 wh :: .bool dn :: cs
/-- A Read: which part comes next, the word that it has, when, whether it is done. -/
structure LrM where
  part : Int
  wd : Int
  wh : Int
  dn : Bool
def LrM.cells (x : LrM) (t a : Int) : List Value := lkC t a x.part x.wd x.wh x.dn []
structure LrM.Wf (x : LrM) : Prop where
  part : x.part = 0 ∨ x.part = 1 ∨ x.part = 2 ∨ x.part = 3
  wd : W64 x.wd
def lrS (t a : Int) (x : LrM) (s : MSt) : LrM × MSt :=
  if x.dn = true then (x, s)
  else if x.part = 0 then (if BM.dirtyB (peekV s a) = true then ⟨1, peekV s a, x.wh, false⟩ else ⟨0, peekV s a, (s.load t a).clock, true⟩, s.load t a)
  else if x.part = 1 then (⟨2, x.wd, x.wh, false⟩, s.flush t a)
  else if x.part = 2 then (⟨3, x.wd, x.wh, false⟩, s.fence t)
  else (⟨0, x.wd, x.wh, false⟩, s.swap t a x.wd (clN x.wd))
/-- The document's Read. -/
structure RLr where
  line : Int
  got : Int
  wd : Int
  wh : Int
def RLr.cells (r : RLr) (t a : Int) : List Value := [.int .i64 t, .int .i64 a, .int .i64 r.line, .int .u64 r.got, .int .u64 r.wd, .int .i64 r.wh]
structure RLr.Wf (r : RLr) : Prop where
  line : r.line = 0 ∨ r.line = 1 ∨ r.line = 2 ∨ r.line = 3 ∨ r.line = 4
  got : W64 r.got
def rlrS (t a : Int) (r : RLr) (s : MSt) : RLr × MSt :=
  if r.line = 1 then (if BM.dirtyB (peekV s a) = true then ⟨2, peekV s a, r.wd, r.wh⟩ else ⟨0, peekV s a, peekV s a, (s.load t a).clock⟩, s.load t a)
  else if r.line = 2 then (⟨3, r.got, r.wd, r.wh⟩, s.flush t a)
  else if r.line = 3 then (⟨4, r.got, r.wd, r.wh⟩, s.fence t)
  else if r.line = 4 then (⟨1, r.got, r.wd, r.wh⟩, s.swap t a r.got (clN r.got))
  else (r, s)
/-- A Read beside the document's. -/
structure RelR (x : LrM) (r : RLr) : Prop where
  xw : x.Wf
  rw : r.Wf
  line : r.line = if x.dn = true then 0 else x.part + 1
  got : x.part ≠ 0 → r.got = x.wd
  wd : r.wd = if x.dn = true then x.wd else 0
  wh : r.wh = if x.dn = true then x.wh else -1
theorem RelR.step {t a : Int} {x : LrM} {r : RLr} {s : MSt} (h : RelR x r) (hU : ∀ b, W64 (peekV s b)) : (rlrS t a r s).2 = (lrS t a x s).2 ∧ RelR (lrS t a x s).1 (rlrS t a r s).1 := by
  obtain ⟨part, wd, wh, dn⟩ := x
  obtain ⟨line, got, rwd, rwh⟩ := r
  obtain ⟨hx, hr, hl, hg, hw, hh⟩ := h
  simp only at hl hg hw hh
  have hv := hU a
  cases dn
  · have hl' : line = part + 1 := by simpa using hl
    have hw' : rwd = 0 := by simpa using hw
    have hh' : rwh = -1 := by simpa using hh
    subst hl' hw' hh'
    rcases hx.part with e | e | e | e
    · have e' : part = 0 := e
      subst e'
      have e1 : lrS t a ⟨0, wd, wh, false⟩ s = (if BM.dirtyB (peekV s a) = true then ⟨1, peekV s a, wh, false⟩ else ⟨0, peekV s a, (s.load t a).clock, true⟩, s.load t a) := rfl
      have e2 : rlrS t a ⟨0 + 1, got, 0, -1⟩ s = (if BM.dirtyB (peekV s a) = true then ⟨2, peekV s a, 0, -1⟩ else ⟨0, peekV s a, peekV s a, (s.load t a).clock⟩, s.load t a) := rfl
      rw [e1, e2]
      refine ⟨rfl, ?_⟩
      by_cases hd : BM.dirtyB (peekV s a) = true
      · simp only [if_pos hd]
        exact ⟨⟨Or.inr (Or.inl rfl), hv⟩, ⟨Or.inr (Or.inr (Or.inl rfl)), hv⟩, rfl, fun _ => rfl, rfl, rfl⟩
      · simp only [if_neg hd]
        exact ⟨⟨Or.inl rfl, hv⟩, ⟨Or.inl rfl, hv⟩, rfl, fun h => absurd rfl h, rfl, rfl⟩
    · have e' : part = 1 := e
      subst e'
      have hg' : got = wd := hg (by decide)
      subst hg'
      have e1 : lrS t a ⟨1, got, wh, false⟩ s = (⟨2, got, wh, false⟩, s.flush t a) := rfl
      have e2 : rlrS t a ⟨1 + 1, got, 0, -1⟩ s = (⟨3, got, 0, -1⟩, s.flush t a) := rfl
      rw [e1, e2]
      exact ⟨rfl, ⟨Or.inr (Or.inr (Or.inl rfl)), hx.wd⟩, ⟨Or.inr (Or.inr (Or.inr (Or.inl rfl))), hr.got⟩, rfl, fun _ => rfl, rfl, rfl⟩
    · have e' : part = 2 := e
      subst e'
      have hg' : got = wd := hg (by decide)
      subst hg'
      have e1 : lrS t a ⟨2, got, wh, false⟩ s = (⟨3, got, wh, false⟩, s.fence t) := rfl
      have e2 : rlrS t a ⟨2 + 1, got, 0, -1⟩ s = (⟨4, got, 0, -1⟩, s.fence t) := rfl
      rw [e1, e2]
      exact ⟨rfl, ⟨Or.inr (Or.inr (Or.inr rfl)), hx.wd⟩, ⟨Or.inr (Or.inr (Or.inr (Or.inr rfl))), hr.got⟩, rfl, fun _ => rfl, rfl, rfl⟩
    · have e' : part = 3 := e
      subst e'
      have hg' : got = wd := hg (by decide)
      subst hg'
      have e1 : lrS t a ⟨3, got, wh, false⟩ s = (⟨0, got, wh, false⟩, s.swap t a got (clN got)) := rfl
      have e2 : rlrS t a ⟨3 + 1, got, 0, -1⟩ s = (⟨1, got, 0, -1⟩, s.swap t a got (clN got)) := rfl
      rw [e1, e2]
      exact ⟨rfl, ⟨Or.inl rfl, hx.wd⟩, ⟨Or.inr (Or.inl rfl), hr.got⟩, rfl, fun h => absurd rfl h, rfl, rfl⟩
  · have hl' : line = 0 := by simpa using hl
    subst hl'
    have e1 : lrS t a ⟨part, wd, wh, true⟩ s = (⟨part, wd, wh, true⟩, s) := rfl
    have e2 : rlrS t a ⟨0, got, rwd, rwh⟩ s = (⟨0, got, rwd, rwh⟩, s) := rfl
    rw [e1, e2]
    exact ⟨rfl, hx, hr, hl, hg, hw, hh⟩
theorem RelR.zero : RelR ⟨0, 0, 0, false⟩ ⟨1, 0, 0, -1⟩ := ⟨⟨Or.inl rfl, ⟨Int.le_refl 0, by show (0 : Int) < _; decide⟩⟩, ⟨Or.inr (Or.inl rfl), ⟨Int.le_refl 0, by show (0 : Int) < _; decide⟩⟩, rfl, fun h => absurd rfl h, rfl, rfl⟩
theorem RelR.lineB {x : LrM} {r : RLr} (h : RelR x r) : (r.line == 0) = x.dn := by
  have hl := h.line
  have hp := h.xw.part
  cases hd : x.dn
  · rw [hd, if_neg (by decide)] at hl
    rw [hl]
    rw [beq_eq_false_iff_ne]
    omega
  · rw [hd, if_pos rfl] at hl
    rw [hl]
    rfl
theorem lrS_fine {k : Nat} {t a : Int} {x : LrM} {s : MSt} (hf : Fine k s.dev) (hk : k ≤ 90) : Fine (k + 1) (lrS t a x s).2.dev := by
  unfold lrS
  split
  · exact hf.up
  split
  · exact act_fine hf hk 1 t a 0 0
  split
  · exact act_fine hf hk 4 t a 0 0
  split
  · exact act_fine hf hk 5 t 0 0 0
  · exact act_fine hf hk 3 t a x.wd (clN x.wd)
theorem lrS_calm {n : Int} {t a : Int} {x : LrM} {s : MSt} (h : CalmN n s) : CalmN (n + 1) (lrS t a x s).2 := by
  unfold lrS
  split
  · exact CalmN.mono h (by omega)
  split
  · exact act_calm h 1 t a 0 0
  split
  · exact act_calm h 4 t a 0 0
  split
  · exact act_calm h 5 t 0 0 0
  · exact act_calm h 3 t a x.wd (clN x.wd)
/-- A Set: which part comes next, when it put the link, whether it is done, whether it put it, how often the line had been written back. -/
structure LsM where
  part : Int
  wh : Int
  dn : Bool
  put : Bool
  wr : Int
def LsM.cells (x : LsM) (t a wd old : Int) : List Value := lkC t a x.part wd x.wh x.dn [.int .u64 old, .bool x.put, .int .i64 x.wr]
def lsS (t a wd old : Int) (x : LsM) (s : MSt) : LsM × MSt :=
  if x.dn = true then (x, s)
  else if x.part = 0 then (if swapB s a old = true then ⟨1, (s.swap t a old wd).clock, false, true, writesV (s.swap t a old wd).dev a⟩ else ⟨0, x.wh, true, false, x.wr⟩, s.swap t a old wd)
  else if x.part = 1 then (⟨2, x.wh, false, x.put, x.wr⟩, s.flush t a)
  else if x.part = 2 then (⟨3, x.wh, false, x.put, x.wr⟩, s.fence t)
  else (⟨3, x.wh, true, x.put, x.wr⟩, s.swap t a wd (clN wd))
/-- The document's Set. -/
structure RLs where
  line : Int
  put : Bool
  wh : Int
  wr : Int
def RLs.cells (r : RLs) (t a old new : Int) : List Value := [.int .i64 t, .int .i64 a, .int .i64 r.line, .int .u64 old, .int .u64 new, .bool r.put, .int .i64 r.wh, .int .i64 r.wr]
def rlsS (t a old new : Int) (r : RLs) (s : MSt) : RLs × MSt :=
  if r.line = 1 then (if swapB s a old = true then ⟨2, true, (s.swap t a old (soN new)).clock, if 0 ≤ a then writesV (s.swap t a old (soN new)).dev a else r.wr⟩ else ⟨0, r.put, r.wh, r.wr⟩, s.swap t a old (soN new))
  else if r.line = 2 then (⟨3, r.put, r.wh, r.wr⟩, s.flush t a)
  else if r.line = 3 then (⟨4, r.put, r.wh, r.wr⟩, s.fence t)
  else if r.line = 4 then (⟨0, r.put, r.wh, r.wr⟩, s.swap t a (soN new) new)
  else (r, s)
/-- A Set beside the document's. -/
structure RelS (x : LsM) (r : RLs) : Prop where
  part : x.part = 0 ∨ x.part = 1 ∨ x.part = 2 ∨ x.part = 3
  line : r.line = if x.dn = true then 0 else x.part + 1
  put : r.put = x.put
  wh : r.wh = if x.put = true then x.wh else -1
  wr : r.wr = x.wr
  no : x.dn = false → x.part = 0 → x.put = false ∧ x.wr = 0
theorem RelS.step {t a w o : Int} {x : LsM} {r : RLs} {s : MSt} (h : RelS x r) : (rlsS t a (clN o) (clN w) r s).2 = (lsS t a (soN w) (clN o) x s).2 ∧ RelS (lsS t a (soN w) (clN o) x s).1 (rlsS t a (clN o) (clN w) r s).1 := by
  obtain ⟨part, wh, dn, put, wr⟩ := x
  obtain ⟨line, rput, rwh, rwr⟩ := r
  obtain ⟨hx, hl, hp, hh, hw, hn⟩ := h
  simp only at hx hl hp hh hw hn
  subst hp hw
  have es := soN_cl w
  have ec := clN_so w
  cases dn
  · have hl' : line = part + 1 := by simpa using hl
    subst hl'
    rcases hx with e | e | e | e
    · subst e
      obtain ⟨n1, n2⟩ := hn rfl rfl
      subst n1 n2
      have hh' : rwh = -1 := by simpa using hh
      subst hh'
      have e1 : lsS t a (soN w) (clN o) ⟨0, wh, false, false, 0⟩ s = (if swapB s a (clN o) = true then ⟨1, (s.swap t a (clN o) (soN w)).clock, false, true, writesV (s.swap t a (clN o) (soN w)).dev a⟩ else ⟨0, wh, true, false, 0⟩, s.swap t a (clN o) (soN w)) := rfl
      have e2 : rlsS t a (clN o) (clN w) ⟨0 + 1, false, -1, 0⟩ s = (if swapB s a (clN o) = true then ⟨2, true, (s.swap t a (clN o) (soN (clN w))).clock, if 0 ≤ a then writesV (s.swap t a (clN o) (soN (clN w))).dev a else 0⟩ else ⟨0, false, -1, 0⟩, s.swap t a (clN o) (soN (clN w))) := rfl
      rw [e1, e2, es]
      refine ⟨rfl, ?_⟩
      by_cases hd : swapB s a (clN o) = true
      · simp only [if_pos hd]
        refine ⟨Or.inr (Or.inl rfl), rfl, rfl, rfl, ?_, fun _ h => absurd (show (1 : Int) = 0 from h) (by decide)⟩
        show (if 0 ≤ a then _ else (0 : Int)) = _
        split
        · rfl
        · unfold writesV
          rw [if_neg (by omega)]
      · simp only [if_neg hd]
        exact ⟨Or.inl rfl, rfl, rfl, rfl, rfl, fun h => absurd (show true = false from h) (by decide)⟩
    · subst e
      exact ⟨rfl, Or.inr (Or.inr (Or.inl rfl)), rfl, rfl, hh, rfl, fun _ h => absurd (show (2 : Int) = 0 from h) (by decide)⟩
    · subst e
      exact ⟨rfl, Or.inr (Or.inr (Or.inr rfl)), rfl, rfl, hh, rfl, fun _ h => absurd (show (3 : Int) = 0 from h) (by decide)⟩
    · subst e
      have e1 : lsS t a (soN w) (clN o) ⟨3, wh, false, rput, rwr⟩ s = (⟨3, wh, true, rput, rwr⟩, s.swap t a (soN w) (clN (soN w))) := rfl
      have e2 : rlsS t a (clN o) (clN w) ⟨3 + 1, rput, rwh, rwr⟩ s = (⟨0, rput, rwh, rwr⟩, s.swap t a (soN (clN w)) (clN w)) := rfl
      rw [e1, e2, es, ec]
      exact ⟨rfl, Or.inr (Or.inr (Or.inr rfl)), rfl, rfl, hh, rfl, fun h => absurd (show true = false from h) (by decide)⟩
  · have hl' : line = 0 := by simpa using hl
    subst hl'
    exact ⟨rfl, hx, rfl, rfl, hh, rfl, hn⟩
theorem RelS.zero : RelS ⟨0, 0, false, false, 0⟩ ⟨1, false, -1, 0⟩ := ⟨Or.inl rfl, rfl, rfl, rfl, rfl, fun _ _ => ⟨rfl, rfl⟩⟩
theorem RelS.lineB {x : LsM} {r : RLs} (h : RelS x r) : (r.line == 0) = x.dn := by
  have hl := h.line
  have hp := h.part
  cases hd : x.dn
  · rw [hd, if_neg (by decide)] at hl
    rw [hl]
    rw [beq_eq_false_iff_ne]
    omega
  · rw [hd, if_pos rfl] at hl
    rw [hl]
    rfl
theorem RelS.lineOk {x : LsM} {r : RLs} (h : RelS x r) : r.line = 0 ∨ r.line = 1 ∨ r.line = 2 ∨ r.line = 3 ∨ r.line = 4 := by
  have hl := h.line
  have hp := h.part
  by_cases hd : x.dn = true
  · rw [if_pos hd] at hl; omega
  · rw [if_neg hd] at hl; omega
theorem lsS_fine {k : Nat} {t a wd old : Int} {x : LsM} {s : MSt} (hf : Fine k s.dev) (hk : k ≤ 90) : Fine (k + 1) (lsS t a wd old x s).2.dev := by
  unfold lsS
  split
  · exact hf.up
  split
  · exact act_fine hf hk 3 t a old wd
  split
  · exact act_fine hf hk 4 t a 0 0
  split
  · exact act_fine hf hk 5 t 0 0 0
  · exact act_fine hf hk 3 t a wd (clN wd)
theorem lsS_calm {n : Int} {t a wd old : Int} {x : LsM} {s : MSt} (h : CalmN n s) : CalmN (n + 1) (lsS t a wd old x s).2 := by
  unfold lsS
  split
  · exact CalmN.mono h (by omega)
  split
  · exact act_calm h 3 t a old wd
  split
  · exact act_calm h 4 t a 0 0
  split
  · exact act_calm h 5 t 0 0 0
  · exact act_calm h 3 t a wd (clN wd)
theorem lsS_part {t a wd old : Int} {x : LsM} {s : MSt} (h : x.part = 0 ∨ x.part = 1 ∨ x.part = 2 ∨ x.part = 3) : (lsS t a wd old x s).1.part = 0 ∨ (lsS t a wd old x s).1.part = 1 ∨ (lsS t a wd old x s).1.part = 2 ∨ (lsS t a wd old x s).1.part = 3 := by
  unfold lsS
  split
  · exact h
  split
  · by_cases e : swapB s a old = true
    · rw [if_pos e]; exact Or.inr (Or.inl rfl)
    · rw [if_neg e]; exact Or.inl rfl
  split
  · exact Or.inr (Or.inr (Or.inl rfl))
  split
  · exact Or.inr (Or.inr (Or.inr rfl))
  · exact Or.inr (Or.inr (Or.inr rfl))
/-- So many steps of one machine, alone. -/
def stepsL {X : Type} (f : X → MSt → X × MSt) (p : X × MSt) : Nat → X × MSt
  | 0 => p
  | k + 1 => f (stepsL f p k).1 (stepsL f p k).2
end Go.Proofs.YtndplpfbohigpaaGreat

/- Package link: each step of a Read and of a Set. Conditions: those that each theorem names. -/
namespace Go.Proofs.YtndplpfbohigpaaGreat
open Go.ChangeShapes Go.WideShapes Go.ChangeAt Go.RowKit
set_option linter.unusedVariables false
theorem writes_no (B : Nat) (w : World) (D : DevB) (s : DSt) (h : IsDev B w D s) (at_ : Int) (ha : at_ < 0 ∨ (s.n : Int) ≤ at_) :
    Calls Tryz.prog 257 #[D.ptr, .int .i64 at_] w fun e w' => e = .returned (.int .i64 0) ∧ w = w' := by
  unfold DevB.ptr
  have HC : Hid (Calls Tryz.prog 174 #[.pointer (some ⟨D.gd, 0, none⟩), .int .i64 at_] w fun e w' => e = .returned (.int .i64 5) ∧ w = w') := by
    rcases ha with ha | ha
    · exact Lib.hid (askL_lo _ _ _ _ at_ ha w h.n1 h.c0)
    · exact Lib.hid (askL_hi _ _ _ _ at_ (by omega) w h.n1 h.c0)
  clear ha
  go_enter Tryz.func257, Tryz.ntmps257
  go_wp2_with fail
  refine HC.out.mono ?_
  rintro e w' ⟨rfl, rfl⟩
  go_wp2_with fail
  go_ret
  exact ⟨rfl, rfl⟩
section
variable {Q : Nat → Prop} {wb w0 w : World} {gm : Nat} {dv pv v : Value} {s : MSt}
theorem AtQ.writesAny {s : DSt} (h : AtQ Q wb w0 w v s) (a : Int) : Calls Tryz.prog 257 #[v, .int .i64 (lineNo a)] w fun e w' => e = .returned (.int .i64 (writesV s a)) ∧ w = w' := by
  obtain ⟨D, rfl, h, ext, hQ⟩ := h
  unfold lineNo writesV
  by_cases ha : 0 ≤ a ∧ a < (s.n : Int) * 8
  · rw [if_neg (by omega), if_pos ha]
    obtain ⟨q, hq⟩ := Int.eq_ofNat_of_zero_le (show 0 ≤ a / 8 by omega)
    rw [hq]
    exact writes_ok _ _ _ _ h q (by omega)
  · rw [if_neg ha]
    by_cases hn : a < 0
    · rw [if_pos hn]
      exact writes_no _ _ _ _ h _ (by omega)
    · rw [if_neg hn]
      exact writes_no _ _ _ _ h _ (by omega)
set_option maxRecDepth 100000 in
set_option maxHeartbeats 1000000 in
theorem memWrites_ok (h : IsMem Q wb w0 w gm dv pv s) (a : Int) (h1 : a < 9223372036854775808) : Calls Tryz.prog 231 #[.pointer (some ⟨gm, 0, none⟩), .int .i64 a] w fun e w' => e = .returned (.int .i64 (writesV s.dev a)) ∧ Ext w w' := by
  have c0 : w.cell? ⟨gm, 0, none⟩ = some dv := h.blk.cell 0
  have HL := Lib.hid (fun W => lineOf_any a W h1)
  have HWr := Lib.hid (fun (W : World) (x : Ext w W) => (h.ext x).dev.writesAny a)
  have xt : Ext w w.drew := (Ext.refl w).drew
  clear h
  generalize writesV s.dev a = y at *
  generalize lineNo a = l at *
  go_enter Tryz.func231, Tryz.ntmps231
  go_wp2_with fail
  go_region_with (first
    | (go_at_call 204; refine (HL.out _).mono ?_; rintro e w' ⟨rfl, rfl⟩)
    | (go_at_call 257; refine (HWr.out _ xt).mono ?_; rintro e w' ⟨rfl, rfl⟩))
  all_goals
    go_wp2_with fail
    go_ret
    exact ⟨rfl, xt⟩
end
section
variable {Q : Nat → Prop} {w0 w : World} {gm gp : Nat} {T : TypeId} {dv pv : Value} {s : MSt} {t a part wd wh : Int} {dn : Bool} {cs : List Value}
set_option maxRecDepth 100000 in
set_option maxHeartbeats 4000000 in
theorem keep_1 (h : IsMem Q w w0 w gm dv pv s) (hc : Calm s) {i : Nat} (hi : i ≤ 1000) (fine : Fine i s.dev) (ha : I64 a) (hb : Blk w gp T (lkC t a 1 wd wh dn cs)) (qp : Q gp) (p0 : w0.heap.size ≤ gp) :
    Calls Tryz.prog 170 #[.pointer (some ⟨gp, 0, none⟩), .pointer (some ⟨gm, 0, none⟩)] w (StepPost Q w0 w gm gp T dv pv (s.flush t a) false (lkC t a 2 wd wh dn cs)) := by
  have HK : Hid (∀ W s', IsMem Q w w0 W gm dv pv s' → Blk W gp T (lkC t a 1 wd wh dn cs)) := Lib.hid (fun W s' m => (m.keptQ gp qp).trans hb)
  have HP : Hid (∀ W s', IsMem Q w w0 W gm dv pv s' → W.cell? ⟨gp, 0, none⟩ = some (.int .i64 t) ∧ W.cell? ⟨gp, 1, none⟩ = some (.int .i64 a)) := Lib.hid (fun W s' m => ⟨(HK.out W s' m).cell 0, (HK.out W s' m).cell 1⟩)
  have HL : Hid (∀ W, IsMem Q w w0 W gm dv pv s → Calls Tryz.prog 122 #[.pointer (some ⟨gm, 0, none⟩), .int .i64 t, .int .i64 a] W fun e w' => (∃ u, e = .returned u) ∧ IsMem Q w w0 w' gm dv pv (s.flush t a)) := Lib.hid (fun W m => memFlush_ok m t a ha.2 hi fine hc)
  have M := Lib.hid (h.ext ((Ext.refl w).drew))
  generalize s.flush t a = s1 at *
  have c0 : w.cell? ⟨gp, 0, none⟩ = some (.int .i64 t) := hb.cell 0
  have c1 : w.cell? ⟨gp, 1, none⟩ = some (.int .i64 a) := hb.cell 1
  have c2 : w.cell? ⟨gp, 2, none⟩ = some (.int .i64 1) := hb.cell 2
  clear h hb hc ha fine
  go_enter Tryz.func170, Tryz.ntmps170
  go_wp2_with fail
  go_region_held3 (fun W => W.cell? ⟨gp, 0, none⟩ = some (.int .i64 t) ∧ W.cell? ⟨gp, 1, none⟩ = some (.int .i64 a)) (first | exact HP.out _ _ M.out | go_keep) (first
    | (go_at_call 122; refine (HL.out _ M.out).mono ?_; rintro e w1 ⟨⟨u, rfl⟩, m1⟩; replace M := Lib.hid m1; clear m1))
  all_goals
    have y2 : w1.cell? ⟨gp, 2, none⟩ = some (.int .i64 1) := (HK.out _ _ M.out).cell 2
    have z2 : w1.frozen? ⟨gp, 2, none⟩ = false := (HK.out _ _ M.out).frozen 2
    go_wp2_with fail
    go_ret
    have f : Fr (fun b => b = gp) w1 (w1.setCell ⟨gp, 2, none⟩ (.int .i64 2)) := Fr.setCell (S := fun b => b = gp) (p := ⟨gp, 2, none⟩) (Fr.refl _ w1) (Or.inl rfl) _
    refine ⟨rfl, M.out.turn f (fun b e => by rw [e]; exact qp) (fun b e => by rw [e]; exact p0), (HK.out _ _ M.out).set 2 _, fun b hb hne => ?_⟩
    exact (f.block b (M.out.lt.2 b hb) hne).trans (M.out.keptQ b hb)
set_option maxRecDepth 100000 in
set_option maxHeartbeats 4000000 in
theorem keep_2 (h : IsMem Q w w0 w gm dv pv s) (hc : Calm s) {i : Nat} (hi : i ≤ 1000) (fine : Fine i s.dev) (ha : I64 a) (hb : Blk w gp T (lkC t a 2 wd wh dn cs)) (qp : Q gp) (p0 : w0.heap.size ≤ gp) :
    Calls Tryz.prog 170 #[.pointer (some ⟨gp, 0, none⟩), .pointer (some ⟨gm, 0, none⟩)] w (StepPost Q w0 w gm gp T dv pv (s.fence t) false (lkC t a 3 wd wh dn cs)) := by
  have HK : Hid (∀ W s', IsMem Q w w0 W gm dv pv s' → Blk W gp T (lkC t a 2 wd wh dn cs)) := Lib.hid (fun W s' m => (m.keptQ gp qp).trans hb)
  have HL : Hid (∀ W, IsMem Q w w0 W gm dv pv s → Calls Tryz.prog 123 #[.pointer (some ⟨gm, 0, none⟩), .int .i64 t] W fun e w' => (∃ u, e = .returned u) ∧ IsMem Q w w0 w' gm dv pv (s.fence t)) := Lib.hid (fun W m => memFence_ok m t hi fine hc)
  have M := Lib.hid h
  generalize s.fence t = s1 at *
  have c0 : w.cell? ⟨gp, 0, none⟩ = some (.int .i64 t) := hb.cell 0
  have c2 : w.cell? ⟨gp, 2, none⟩ = some (.int .i64 2) := hb.cell 2
  clear h hb hc ha fine
  go_enter Tryz.func170, Tryz.ntmps170
  go_wp2_with fail
  refine (HL.out _ M.out).mono ?_
  rintro e w1 ⟨⟨u, rfl⟩, m1⟩
  replace M := Lib.hid m1
  clear m1
  have y2 : w1.cell? ⟨gp, 2, none⟩ = some (.int .i64 2) := (HK.out _ _ M.out).cell 2
  have z2 : w1.frozen? ⟨gp, 2, none⟩ = false := (HK.out _ _ M.out).frozen 2
  go_wp2_with fail
  go_ret
  have f : Fr (fun b => b = gp) w1 (w1.setCell ⟨gp, 2, none⟩ (.int .i64 3)) := Fr.setCell (S := fun b => b = gp) (p := ⟨gp, 2, none⟩) (Fr.refl _ w1) (Or.inl rfl) _
  refine ⟨rfl, M.out.turn f (fun b e => by rw [e]; exact qp) (fun b e => by rw [e]; exact p0), (HK.out _ _ M.out).set 2 _, fun b hb hne => ?_⟩
  exact (f.block b (M.out.lt.2 b hb) hne).trans (M.out.keptQ b hb)
set_option maxRecDepth 100000 in
set_option maxHeartbeats 4000000 in
theorem keep_3 (h : IsMem Q w w0 w gm dv pv s) (hc : Calm s) (ha : I64 a) (hw : W64 wd) (hb : Blk w gp T (lkC t a 3 wd wh dn cs)) (qp : Q gp) (p0 : w0.heap.size ≤ gp) :
    Calls Tryz.prog 170 #[.pointer (some ⟨gp, 0, none⟩), .pointer (some ⟨gm, 0, none⟩)] w (StepPost Q w0 w gm gp T dv pv (s.swap t a wd (clN wd)) true (lkC t a 3 wd wh dn cs)) := by
  have HK : Hid (∀ W s', IsMem Q w w0 W gm dv pv s' → Blk W gp T (lkC t a 3 wd wh dn cs)) := Lib.hid (fun W s' m => (m.keptQ gp qp).trans hb)
  have HP : Hid (∀ W s', IsMem Q w w0 W gm dv pv s' → W.cell? ⟨gp, 0, none⟩ = some (.int .i64 t) ∧ W.cell? ⟨gp, 1, none⟩ = some (.int .i64 a) ∧ W.cell? ⟨gp, 3, none⟩ = some (.int .u64 wd)) := Lib.hid (fun W s' m => ⟨(HK.out W s' m).cell 0, (HK.out W s' m).cell 1, (HK.out W s' m).cell 3⟩)
  have HL : Hid (∀ W, IsMem Q w w0 W gm dv pv s → Calls Tryz.prog 121 #[.pointer (some ⟨gm, 0, none⟩), .int .i64 t, .int .i64 a, .int .u64 wd, .int .u64 (clN wd)] W fun e w' => (∃ u, e = .returned u) ∧ IsMem Q w w0 w' gm dv pv (s.swap t a wd (clN wd))) := Lib.hid (fun W m => (memSwap_ok m t a wd (clN wd) ha.1 ha.2 (clN_rng wd) hc).mono fun e w' hh => ⟨⟨_, hh.1⟩, hh.2⟩)
  have HCl : Hid (∀ W, Calls Tryz.prog 172 #[.int .u64 wd] W fun e w' => e = .returned (.int .u64 (clN wd)) ∧ Ext w' w' ∧ Ext W w') := Lib.hid (fun W => (clean_any wd hw.1 hw.2 W).mono fun e w' hh => ⟨hh.1, Ext.refl _, hh.2⟩)
  have M := Lib.hid (h.ext ((Ext.refl w).drew))
  generalize s.swap t a wd (clN wd) = s1 at *
  have c0 : w.cell? ⟨gp, 0, none⟩ = some (.int .i64 t) := hb.cell 0
  have c1 : w.cell? ⟨gp, 1, none⟩ = some (.int .i64 a) := hb.cell 1
  have c3 : w.cell? ⟨gp, 3, none⟩ = some (.int .u64 wd) := hb.cell 3
  have c2 : w.cell? ⟨gp, 2, none⟩ = some (.int .i64 3) := hb.cell 2
  clear h hb hc ha hw
  go_enter Tryz.func170, Tryz.ntmps170
  go_wp2_with fail
  go_region_held3 (fun W => W.cell? ⟨gp, 0, none⟩ = some (.int .i64 t) ∧ W.cell? ⟨gp, 1, none⟩ = some (.int .i64 a) ∧ W.cell? ⟨gp, 3, none⟩ = some (.int .u64 wd)) (first | exact HP.out _ _ M.out | go_keep) (first
    | (go_at_call 172; refine (HCl.out _).mono ?_; rintro e w1 ⟨rfl, -, x1⟩; replace M := Lib.hid (M.out.ext x1); clear x1)
    | (go_at_call 121; refine (HL.out _ M.out).mono ?_; rintro e w1 ⟨⟨u, rfl⟩, m1⟩; replace M := Lib.hid m1; clear m1))
  all_goals
    go_wp2_with fail
    go_ret
    exact ⟨rfl, M.out.here, HK.out _ _ M.out, fun b hb hne => M.out.keptQ b hb⟩
end
theorem lrDone_ok (w : World) (g : Nat) (d : Bool) (c5 : w.cell? ⟨g, 5, none⟩ = some (.bool d)) :
    Calls Tryz.prog 73 #[.pointer (some ⟨g, 0, none⟩)] w fun e w' => e = .returned (.bool d) ∧ w = w' := by
  go_enter Tryz.func73, Tryz.ntmps73
  go_wp2_with fail
  go_ret
  exact ⟨rfl, rfl⟩
theorem lrDone_nil (w : World) :
    Calls Tryz.prog 73 #[.pointer none] w fun e w' => e = .returned (.bool true) ∧ w = w' := by
  go_enter Tryz.func73, Tryz.ntmps73
  go_wp2_with fail
  go_ret
  exact ⟨rfl, rfl⟩
theorem lsDone_ok (w : World) (g : Nat) (d : Bool) (c5 : w.cell? ⟨g, 5, none⟩ = some (.bool d)) :
    Calls Tryz.prog 80 #[.pointer (some ⟨g, 0, none⟩)] w fun e w' => e = .returned (.bool d) ∧ w = w' := by
  go_enter Tryz.func80, Tryz.ntmps80
  go_wp2_with fail
  go_ret
  exact ⟨rfl, rfl⟩
theorem lsDone_nil (w : World) :
    Calls Tryz.prog 80 #[.pointer none] w fun e w' => e = .returned (.bool true) ∧ w = w' := by
  go_enter Tryz.func80, Tryz.ntmps80
  go_wp2_with fail
  go_ret
  exact ⟨rfl, rfl⟩
section
variable {Q : Nat → Prop} {w0 w : World} {gm gp : Nat} {dv pv : Value} {s : MSt} {t a wd wh : Int}
set_option maxRecDepth 100000 in
set_option maxHeartbeats 4000000 in
theorem lrLoad_ok (h : IsMem Q w w0 w gm dv pv s) (hc : Calm s) (ha : I64 a) (hb : Blk w gp 240 (lkC t a 0 wd wh false [])) (qp : Q gp) (p0 : w0.heap.size ≤ gp) :
    Calls Tryz.prog 169 #[.pointer (some ⟨gp, 0, none⟩), .pointer (some ⟨gm, 0, none⟩)] w fun e w' => (∃ u, e = .returned u) ∧ IsMem Q w' w0 w' gm dv pv (s.load t a) ∧ Blk w' gp 240 (if BM.dirtyB (peekV s a) = true then lkC t a 1 (peekV s a) wh false [] else lkC t a 0 (peekV s a) (s.load t a).clock true []) ∧ (∀ b, Q b → b ≠ gp → w'.heap[b]? = w.heap[b]?) := by
  have HK : Hid (∀ W s', IsMem Q w w0 W gm dv pv s' → Blk W gp 240 (lkC t a 0 wd wh false [])) := Lib.hid (fun W s' m => (m.keptQ gp qp).trans hb)
  have HP : Hid (∀ W s', IsMem Q w w0 W gm dv pv s' → W.cell? ⟨gp, 0, none⟩ = some (.int .i64 t) ∧ W.cell? ⟨gp, 1, none⟩ = some (.int .i64 a)) := Lib.hid (fun W s' m => ⟨(HK.out W s' m).cell 0, (HK.out W s' m).cell 1⟩)
  have HP2 : Hid (∀ W s' u, IsMem Q w w0 W gm dv pv s' → (W.setCell ⟨gp, 3, none⟩ u).cell? ⟨gp, 0, none⟩ = some (.int .i64 t) ∧ (W.setCell ⟨gp, 3, none⟩ u).cell? ⟨gp, 1, none⟩ = some (.int .i64 a)) := Lib.hid (fun W s' u m => ⟨((HK.out W s' m).set 3 u).cell 0, ((HK.out W s' m).set 3 u).cell 1⟩)
  have HL : Hid (∀ W, IsMem Q w w0 W gm dv pv s → Calls Tryz.prog 120 #[.pointer (some ⟨gm, 0, none⟩), .int .i64 t, .int .i64 a] W fun e w' => e = .returned (.int .u64 (peekV s a)) ∧ IsMem Q w w0 w' gm dv pv (s.load t a)) := Lib.hid (fun W m => memLoad_ok m t a ha.1 ha.2 hc)
  have hv := h.peekU a
  have HDi := Lib.hid (fun W => dirty_any (peekV s a) hv.1 hv.2 W)
  have HCk : Hid (∀ W wb, IsMem Q wb w0 W gm dv pv (s.load t a) → Calls Tryz.prog 66 #[.pointer (some ⟨gm, 0, none⟩)] W fun e w' => e = .returned (.int .i64 (s.load t a).clock) ∧ W = w') := Lib.hid (fun W wb m => memClock_ok m)
  have M := Lib.hid (h.ext ((Ext.refl w).drew))
  generalize (s.load t a).clock = ck at *
  generalize s.load t a = s1 at *
  generalize BM.dirtyB (peekV s a) = d at *
  generalize peekV s a = v at *
  have c0 : w.cell? ⟨gp, 0, none⟩ = some (.int .i64 t) := hb.cell 0
  have c1 : w.cell? ⟨gp, 1, none⟩ = some (.int .i64 a) := hb.cell 1
  clear h hb hc ha hv
  go_enter Tryz.func169, Tryz.ntmps169
  go_wp2_with fail
  go_region_held3 (fun W => W.cell? ⟨gp, 0, none⟩ = some (.int .i64 t) ∧ W.cell? ⟨gp, 1, none⟩ = some (.int .i64 a)) (first | exact HP.out _ _ M.out | exact HP2.out _ _ _ M.out | go_keep) (first
    | (go_at_call 120; refine (HL.out _ M.out).mono ?_; rintro e w1 ⟨rfl, m1⟩; replace M := Lib.hid m1; have y3 : w1.cell? ⟨gp, 3, none⟩ = some (.int .u64 wd) := (HK.out _ _ m1).cell 3; have z3 : w1.frozen? ⟨gp, 3, none⟩ = false := (HK.out _ _ m1).frozen 3; clear m1))
  all_goals
    have f : Fr (fun b => b = gp) w1 (w1.setCell ⟨gp, 3, none⟩ (.int .u64 v)) := Fr.setCell (S := fun b => b = gp) (p := ⟨gp, 3, none⟩) (Fr.refl _ w1) (Or.inl rfl) _
    have M1 := Lib.hid (M.out.turn f (fun b e => by rw [e]; exact qp) (fun b e => by rw [e]; exact p0))
    have B1 : Hid (Blk (w1.setCell ⟨gp, 3, none⟩ (.int .u64 v)) gp 240 (lkC t a 0 v wh false [])) := Lib.hid ((HK.out _ _ M.out).set 3 _)
    have K1 : Hid (∀ b, Q b → b ≠ gp → (w1.setCell ⟨gp, 3, none⟩ (.int .u64 v)).heap[b]? = w.heap[b]?) := Lib.hid (fun b hb hne => (f.block b (M.out.lt.2 b hb) hne).trans (M.out.keptQ b hb))
    have d3 : (w1.setCell ⟨gp, 3, none⟩ (.int .u64 v)).cell? ⟨gp, 3, none⟩ = some (.int .u64 v) := B1.out.cell 3
    clear f y3 z3 c0 c1 HP HP2 HK HL
    generalize (w1.setCell ⟨gp, 3, none⟩ (.int .u64 v)) = w2 at *
    go_wp2_with fail
    refine (HDi.out _).mono ?_
    rintro e w3 ⟨rfl, x3⟩
    have M3 := Lib.hid (M1.out.ext x3)
    have B3 := Lib.hid (B1.out.ext x3)
    have K3 : Hid (∀ b, Q b → b ≠ gp → w3.heap[b]? = w.heap[b]?) := Lib.hid (fun b hb hne => (x3.block b (M1.out.lt.2 b hb)).trans (K1.out b hb hne))
    have y2 : w3.cell? ⟨gp, 2, none⟩ = some (.int .i64 0) := B3.out.cell 2
    have z2 : w3.frozen? ⟨gp, 2, none⟩ = false := B3.out.frozen 2
    have y4 : w3.cell? ⟨gp, 4, none⟩ = some (.int .i64 wh) := B3.out.cell 4
    have z4 : w3.frozen? ⟨gp, 4, none⟩ = false := B3.out.frozen 4
    have y5 : w3.cell? ⟨gp, 5, none⟩ = some (.bool false) := B3.out.cell 5
    have z5 : w3.frozen? ⟨gp, 5, none⟩ = false := B3.out.frozen 5
    clear x3 d3 M1 B1 K1 M
    cases d
    · go_wp2_with fail
      refine (HCk.out _ _ M3.out).mono ?_
      rintro e w4 ⟨rfl, rfl⟩
      go_wp2_with fail
      (first | (refine bodyPost_ret (results_none rfl _ _ _) rfl ?_) | (refine bodyPost_end (results_none rfl _ _ _) rfl ?_))
      have g : Fr (fun b => b = gp) w3 ((w3.setCell ⟨gp, 4, none⟩ (.int .i64 ck)).setCell ⟨gp, 5, none⟩ (.bool true)) := Fr.setCell (S := fun b => b = gp) (p := ⟨gp, 5, none⟩) (Fr.setCell (S := fun b => b = gp) (p := ⟨gp, 4, none⟩) (Fr.refl _ w3) (Or.inl rfl) _) (Or.inl rfl) _
      refine ⟨⟨_, rfl⟩, M3.out.turn g (fun b e => by rw [e]; exact qp) (fun b e => by rw [e]; exact p0), ?_, fun b hb hne => ?_⟩
      · first | exact (B3.out.set 4 _).set 5 _ | (rw [if_neg (by decide)]; exact (B3.out.set 4 _).set 5 _)
      · exact (g.block b (M3.out.lt.2 b hb) hne).trans (K3.out b hb hne)
    · go_wp2_with fail
      (first | (refine bodyPost_ret (results_none rfl _ _ _) rfl ?_) | (refine bodyPost_end (results_none rfl _ _ _) rfl ?_))
      have g : Fr (fun b => b = gp) w3 (w3.setCell ⟨gp, 2, none⟩ (.int .i64 1)) := Fr.setCell (S := fun b => b = gp) (p := ⟨gp, 2, none⟩) (Fr.refl _ w3) (Or.inl rfl) _
      refine ⟨⟨_, rfl⟩, M3.out.turn g (fun b e => by rw [e]; exact qp) (fun b e => by rw [e]; exact p0), ?_, fun b hb hne => ?_⟩
      · first | exact B3.out.set 2 _ | (rw [if_pos rfl]; exact B3.out.set 2 _)
      · exact (g.block b (M3.out.lt.2 b hb) hne).trans (K3.out b hb hne)
set_option maxRecDepth 100000 in
set_option maxHeartbeats 4000000 in
theorem lrStep_ok {x : LrM} (h : IsMem Q w w0 w gm dv pv s) (hc : Calm s) {i : Nat} (hi : i ≤ 1000) (fine : Fine i s.dev) (ha : I64 a) (hx : x.Wf) (hb : Blk w gp 240 (x.cells t a)) (qp : Q gp) (p0 : w0.heap.size ≤ gp) :
    Calls Tryz.prog 71 #[.pointer (some ⟨gp, 0, none⟩), .pointer (some ⟨gm, 0, none⟩)] w (StepPost Q w0 w gm gp 240 dv pv (lrS t a x s).2 (lrS t a x s).1.dn ((lrS t a x s).1.cells t a)) := by
  obtain ⟨part, wd, wh, dn⟩ := x
  obtain ⟨hp, hw⟩ := hx
  simp only at hp hw
  have c5 : w.cell? ⟨gp, 5, none⟩ = some (.bool dn) := hb.cell 5
  have c2 : w.cell? ⟨gp, 2, none⟩ = some (.int .i64 part) := hb.cell 2
  cases dn
  · rcases hp with rfl | rfl | rfl | rfl
    · have e1 : lrS t a ⟨0, wd, wh, false⟩ s = (if BM.dirtyB (peekV s a) = true then ⟨1, peekV s a, wh, false⟩ else ⟨0, peekV s a, (s.load t a).clock, true⟩, s.load t a) := rfl
      rw [e1]
      have HL := Lib.hid (lrLoad_ok h hc ha hb qp p0)
      generalize (s.load t a).clock = ck at *
      generalize s.load t a = s1 at *
      generalize BM.dirtyB (peekV s a) = d at *
      generalize peekV s a = v at *
      obtain ⟨X, hX⟩ : ∃ X : LrM, (if d = true then (⟨1, v, wh, false⟩ : LrM) else ⟨0, v, ck, true⟩) = X := ⟨_, rfl⟩
      rw [hX]
      have HX := Lib.hid hX
      clear h hb hc fine e1 hX
      go_enter Tryz.func71, Tryz.ntmps71
      go_wp2_with fail
      refine (lrDone_ok _ gp false c5).mono ?_
      rintro e w' ⟨rfl, rfl⟩
      go_wp2_with fail
      refine HL.out.mono ?_
      rintro e w1 ⟨⟨u, rfl⟩, m1, b1, k1⟩
      have M1 := Lib.hid m1
      have K1 := Lib.hid k1
      clear m1 k1 HL c5 c2
      cases d
      · have e9 : (⟨0, v, ck, true⟩ : LrM) = X := by simpa using HX.out
        simp only [reduceCtorEq, if_false] at b1
        have c5 : w1.cell? ⟨gp, 5, none⟩ = some (.bool true) := b1.cell 5
        have B1 := Lib.hid b1
        clear b1
        go_wp2_with fail
        go_ret
        rw [← e9]
        exact ⟨rfl, M1.out, B1.out, K1.out⟩
      · have e9 : (⟨1, v, wh, false⟩ : LrM) = X := by simpa using HX.out
        simp only [if_pos] at b1
        have c5 : w1.cell? ⟨gp, 5, none⟩ = some (.bool false) := b1.cell 5
        have B1 := Lib.hid b1
        clear b1
        go_wp2_with fail
        go_ret
        rw [← e9]
        exact ⟨rfl, M1.out, B1.out, K1.out⟩
    · have HL := Lib.hid (keep_1 h hc hi fine ha hb qp p0)
      clear h hb hc fine
      go_enter Tryz.func71, Tryz.ntmps71
      go_wp2_with fail
      refine (lrDone_ok _ gp false c5).mono ?_
      rintro e w' ⟨rfl, rfl⟩
      go_wp2_with fail
      refine HL.out.mono ?_
      rintro e w1 ⟨rfl, m1, b1, k1⟩
      have c5 : w1.cell? ⟨gp, 5, none⟩ = some (.bool false) := b1.cell 5
      have M1 := Lib.hid m1
      have B1 := Lib.hid b1
      have K1 := Lib.hid k1
      clear m1 b1 k1 HL c2
      go_wp2_with fail
      go_ret
      exact ⟨rfl, M1.out, B1.out, K1.out⟩
    · have HL := Lib.hid (keep_2 h hc hi fine ha hb qp p0)
      clear h hb hc fine
      go_enter Tryz.func71, Tryz.ntmps71
      go_wp2_with fail
      refine (lrDone_ok _ gp false c5).mono ?_
      rintro e w' ⟨rfl, rfl⟩
      go_wp2_with fail
      refine HL.out.mono ?_
      rintro e w1 ⟨rfl, m1, b1, k1⟩
      have c5 : w1.cell? ⟨gp, 5, none⟩ = some (.bool false) := b1.cell 5
      have M1 := Lib.hid m1
      have B1 := Lib.hid b1
      have K1 := Lib.hid k1
      clear m1 b1 k1 HL c2
      go_wp2_with fail
      go_ret
      exact ⟨rfl, M1.out, B1.out, K1.out⟩
    · have HL := Lib.hid (keep_3 h hc ha hw hb qp p0)
      clear h hb hc fine
      go_enter Tryz.func71, Tryz.ntmps71
      go_wp2_with fail
      refine (lrDone_ok _ gp false c5).mono ?_
      rintro e w' ⟨rfl, rfl⟩
      go_wp2_with fail
      refine HL.out.mono ?_
      rintro e w1 ⟨rfl, m1, b1, k1⟩
      have c5 : w1.cell? ⟨gp, 5, none⟩ = some (.bool false) := b1.cell 5
      have d2 : w1.cell? ⟨gp, 2, none⟩ = some (.int .i64 3) := b1.cell 2
      have z2 : w1.frozen? ⟨gp, 2, none⟩ = false := b1.frozen 2
      have M1 := Lib.hid m1
      have B1 := Lib.hid b1
      have K1 := Lib.hid k1
      clear m1 b1 k1 HL c2
      go_wp2_with fail
      go_ret
      have f : Fr (fun b => b = gp) w1 (w1.setCell ⟨gp, 2, none⟩ (.int .i64 0)) := Fr.setCell (S := fun b => b = gp) (p := ⟨gp, 2, none⟩) (Fr.refl _ w1) (Or.inl rfl) _
      exact ⟨rfl, M1.out.turn f (fun b e => by rw [e]; exact qp) (fun b e => by rw [e]; exact p0), B1.out.set 2 _, fun b hb hne => (f.block b (M1.out.lt.2 b hb) hne).trans (K1.out b hb hne)⟩
  · have H := Lib.hid h
    have HB := Lib.hid hb
    clear h hb hc fine
    go_enter Tryz.func71, Tryz.ntmps71
    go_wp2_with fail
    refine (lrDone_ok _ gp true c5).mono ?_
    rintro e w' ⟨rfl, rfl⟩
    go_wp2_with fail
    go_ret
    exact ⟨rfl, H.out, HB.out, fun _ _ _ => rfl⟩
end
section
variable {Q : Nat → Prop} {w0 w : World} {gm gp : Nat} {dv pv : Value} {s : MSt} {t a wd wh old wr : Int} {put : Bool}
set_option maxRecDepth 100000 in
set_option maxHeartbeats 4000000 in
theorem lsSwap_ok (h : IsMem Q w w0 w gm dv pv s) (hc : Calm s) (ha : I64 a) (hw : W64 wd) (hb : Blk w gp 242 (lkC t a 0 wd wh false [.int .u64 old, .bool put, .int .i64 wr])) (qp : Q gp) (p0 : w0.heap.size ≤ gp) :
    Calls Tryz.prog 173 #[.pointer (some ⟨gp, 0, none⟩), .pointer (some ⟨gm, 0, none⟩)] w fun e w' => (∃ u, e = .returned u) ∧ IsMem Q w' w0 w' gm dv pv (s.swap t a old wd) ∧ Blk w' gp 242 (if swapB s a old = true then lkC t a 1 wd (s.swap t a old wd).clock false [.int .u64 old, .bool true, .int .i64 (writesV (s.swap t a old wd).dev a)] else lkC t a 0 wd wh true [.int .u64 old, .bool false, .int .i64 wr]) ∧ (∀ b, Q b → b ≠ gp → w'.heap[b]? = w.heap[b]?) := by
  have HK : Hid (∀ W s', IsMem Q w w0 W gm dv pv s' → Blk W gp 242 (lkC t a 0 wd wh false [.int .u64 old, .bool put, .int .i64 wr])) := Lib.hid (fun W s' m => (m.keptQ gp qp).trans hb)
  have HP : Hid (∀ W s', IsMem Q w w0 W gm dv pv s' → W.cell? ⟨gp, 0, none⟩ = some (.int .i64 t) ∧ W.cell? ⟨gp, 1, none⟩ = some (.int .i64 a) ∧ W.cell? ⟨gp, 6, none⟩ = some (.int .u64 old) ∧ W.cell? ⟨gp, 3, none⟩ = some (.int .u64 wd)) := Lib.hid (fun W s' m => ⟨(HK.out W s' m).cell 0, (HK.out W s' m).cell 1, (HK.out W s' m).cell 6, (HK.out W s' m).cell 3⟩)
  have HP2 : Hid (∀ W s' u, IsMem Q w w0 W gm dv pv s' → (W.setCell ⟨gp, 7, none⟩ u).cell? ⟨gp, 0, none⟩ = some (.int .i64 t) ∧ (W.setCell ⟨gp, 7, none⟩ u).cell? ⟨gp, 1, none⟩ = some (.int .i64 a) ∧ (W.setCell ⟨gp, 7, none⟩ u).cell? ⟨gp, 6, none⟩ = some (.int .u64 old) ∧ (W.setCell ⟨gp, 7, none⟩ u).cell? ⟨gp, 3, none⟩ = some (.int .u64 wd)) := Lib.hid (fun W s' u m => ⟨((HK.out W s' m).set 7 u).cell 0, ((HK.out W s' m).set 7 u).cell 1, ((HK.out W s' m).set 7 u).cell 6, ((HK.out W s' m).set 7 u).cell 3⟩)
  have HL : Hid (∀ W, IsMem Q w w0 W gm dv pv s → Calls Tryz.prog 121 #[.pointer (some ⟨gm, 0, none⟩), .int .i64 t, .int .i64 a, .int .u64 old, .int .u64 wd] W fun e w' => e = .returned (.bool (swapB s a old)) ∧ IsMem Q w w0 w' gm dv pv (s.swap t a old wd)) := Lib.hid (fun W m => memSwap_ok m t a old wd ha.1 ha.2 hw hc)
  have HCk : Hid (∀ W wb, IsMem Q wb w0 W gm dv pv (s.swap t a old wd) → Calls Tryz.prog 66 #[.pointer (some ⟨gm, 0, none⟩)] W fun e w' => e = .returned (.int .i64 (s.swap t a old wd).clock) ∧ W = w') := Lib.hid (fun W wb m => memClock_ok m)
  have HWr : Hid (∀ W wb, IsMem Q wb w0 W gm dv pv (s.swap t a old wd) → Calls Tryz.prog 231 #[.pointer (some ⟨gm, 0, none⟩), .int .i64 a] W fun e w' => e = .returned (.int .i64 (writesV (s.swap t a old wd).dev a)) ∧ Ext W w') := Lib.hid (fun W wb m => memWrites_ok m a ha.2)
  have M := Lib.hid (h.ext ((Ext.refl w).drew))
  generalize writesV (s.swap t a old wd).dev a = wv at *
  generalize (s.swap t a old wd).clock = ck at *
  generalize s.swap t a old wd = s1 at *
  generalize swapB s a old = d at *
  have c0 : w.cell? ⟨gp, 0, none⟩ = some (.int .i64 t) := hb.cell 0
  have c1 : w.cell? ⟨gp, 1, none⟩ = some (.int .i64 a) := hb.cell 1
  have c6 : w.cell? ⟨gp, 6, none⟩ = some (.int .u64 old) := hb.cell 6
  have c3 : w.cell? ⟨gp, 3, none⟩ = some (.int .u64 wd) := hb.cell 3
  clear h hb hc ha hw
  go_enter Tryz.func173, Tryz.ntmps173
  go_wp2_with fail
  go_region_held3 (fun W => W.cell? ⟨gp, 0, none⟩ = some (.int .i64 t) ∧ W.cell? ⟨gp, 1, none⟩ = some (.int .i64 a) ∧ W.cell? ⟨gp, 6, none⟩ = some (.int .u64 old) ∧ W.cell? ⟨gp, 3, none⟩ = some (.int .u64 wd)) (first | exact HP.out _ _ M.out | exact HP2.out _ _ _ M.out | go_keep) (first
    | (go_at_call 121; refine (HL.out _ M.out).mono ?_; rintro e w1 ⟨rfl, m1⟩; replace M := Lib.hid m1; have y7 : w1.cell? ⟨gp, 7, none⟩ = some (.bool put) := (HK.out _ _ m1).cell 7; have z7 : w1.frozen? ⟨gp, 7, none⟩ = false := (HK.out _ _ m1).frozen 7; clear m1))
  all_goals
    have f : Fr (fun b => b = gp) w1 (w1.setCell ⟨gp, 7, none⟩ (.bool d)) := Fr.setCell (S := fun b => b = gp) (p := ⟨gp, 7, none⟩) (Fr.refl _ w1) (Or.inl rfl) _
    have M1 := Lib.hid (M.out.turn f (fun b e => by rw [e]; exact qp) (fun b e => by rw [e]; exact p0))
    have B1 : Hid (Blk (w1.setCell ⟨gp, 7, none⟩ (.bool d)) gp 242 (lkC t a 0 wd wh false [.int .u64 old, .bool d, .int .i64 wr])) := Lib.hid ((HK.out _ _ M.out).set 7 _)
    have K1 : Hid (∀ b, Q b → b ≠ gp → (w1.setCell ⟨gp, 7, none⟩ (.bool d)).heap[b]? = w.heap[b]?) := Lib.hid (fun b hb hne => (f.block b (M.out.lt.2 b hb) hne).trans (M.out.keptQ b hb))
    have d7 : (w1.setCell ⟨gp, 7, none⟩ (.bool d)).cell? ⟨gp, 7, none⟩ = some (.bool d) := B1.out.cell 7
    have y4 : (w1.setCell ⟨gp, 7, none⟩ (.bool d)).cell? ⟨gp, 4, none⟩ = some (.int .i64 wh) := B1.out.cell 4
    have z4 : (w1.setCell ⟨gp, 7, none⟩ (.bool d)).frozen? ⟨gp, 4, none⟩ = false := B1.out.frozen 4
    have y5 : (w1.setCell ⟨gp, 7, none⟩ (.bool d)).cell? ⟨gp, 5, none⟩ = some (.bool false) := B1.out.cell 5
    have z5 : (w1.setCell ⟨gp, 7, none⟩ (.bool d)).frozen? ⟨gp, 5, none⟩ = false := B1.out.frozen 5
    clear f y7 z7 c0 c1 c6 c3 HP HP2 HK HL M
    generalize (w1.setCell ⟨gp, 7, none⟩ (.bool d)) = w2 at *
    cases d
    · go_wp2_with fail
      (first | (refine bodyPost_ret (results_none rfl _ _ _) rfl ?_) | (refine bodyPost_end (results_none rfl _ _ _) rfl ?_))
      have g : Fr (fun b => b = gp) w2 (w2.setCell ⟨gp, 5, none⟩ (.bool true)) := Fr.setCell (S := fun b => b = gp) (p := ⟨gp, 5, none⟩) (Fr.refl _ w2) (Or.inl rfl) _
      refine ⟨⟨_, rfl⟩, M1.out.turn g (fun b e => by rw [e]; exact qp) (fun b e => by rw [e]; exact p0), ?_, fun b hb hne => ?_⟩
      · first | exact B1.out.set 5 _ | (rw [if_neg (by decide)]; exact B1.out.set 5 _)
      · exact (g.block b (M1.out.lt.2 b hb) hne).trans (K1.out b hb hne)
    · go_wp2_with fail
      refine (HCk.out _ _ M1.out).mono ?_
      rintro e w3 ⟨rfl, rfl⟩
      have g : Fr (fun b => b = gp) w2 (w2.setCell ⟨gp, 4, none⟩ (.int .i64 ck)) := Fr.setCell (S := fun b => b = gp) (p := ⟨gp, 4, none⟩) (Fr.refl _ w2) (Or.inl rfl) _
      have M2 := Lib.hid (M1.out.turn g (fun b e => by rw [e]; exact qp) (fun b e => by rw [e]; exact p0))
      have B2 : Hid (Blk (w2.setCell ⟨gp, 4, none⟩ (.int .i64 ck)) gp 242 (lkC t a 0 wd ck false [.int .u64 old, .bool true, .int .i64 wr])) := Lib.hid (B1.out.set 4 _)
      have K2 : Hid (∀ b, Q b → b ≠ gp → (w2.setCell ⟨gp, 4, none⟩ (.int .i64 ck)).heap[b]? = w.heap[b]?) := Lib.hid (fun b hb hne => (g.block b (M1.out.lt.2 b hb) hne).trans (K1.out b hb hne))
      have c1 : (w2.setCell ⟨gp, 4, none⟩ (.int .i64 ck)).cell? ⟨gp, 1, none⟩ = some (.int .i64 a) := B2.out.cell 1
      clear g d7 y5 z5
      go_wp2_with fail
      refine (HWr.out _ _ M2.out).mono ?_
      rintro e w4 ⟨rfl, x4⟩
      have M4 := Lib.hid (M2.out.ext x4)
      have B4 := Lib.hid (B2.out.ext x4)
      have K4 : Hid (∀ b, Q b → b ≠ gp → w4.heap[b]? = w.heap[b]?) := Lib.hid (fun b hb hne => (x4.block b (M2.out.lt.2 b hb)).trans (K2.out b hb hne))
      have y8 : w4.cell? ⟨gp, 8, none⟩ = some (.int .i64 wr) := B4.out.cell 8
      have z8 : w4.frozen? ⟨gp, 8, none⟩ = false := B4.out.frozen 8
      have y2 : w4.cell? ⟨gp, 2, none⟩ = some (.int .i64 0) := B4.out.cell 2
      have z2 : w4.frozen? ⟨gp, 2, none⟩ = false := B4.out.frozen 2
      clear x4 M2 B2 K2 c1 y4 z4 M1 B1 K1
      go_wp2_with fail
      (first | (refine bodyPost_ret (results_none rfl _ _ _) rfl ?_) | (refine bodyPost_end (results_none rfl _ _ _) rfl ?_))
      have g : Fr (fun b => b = gp) w4 ((w4.setCell ⟨gp, 8, none⟩ (.int .i64 wv)).setCell ⟨gp, 2, none⟩ (.int .i64 1)) := Fr.setCell (S := fun b => b = gp) (p := ⟨gp, 2, none⟩) (Fr.setCell (S := fun b => b = gp) (p := ⟨gp, 8, none⟩) (Fr.refl _ w4) (Or.inl rfl) _) (Or.inl rfl) _
      refine ⟨⟨_, rfl⟩, M4.out.turn g (fun b e => by rw [e]; exact qp) (fun b e => by rw [e]; exact p0), ?_, fun b hb hne => ?_⟩
      · first | exact (B4.out.set 8 _).set 2 _ | (rw [if_pos rfl]; exact (B4.out.set 8 _).set 2 _)
      · exact (g.block b (M4.out.lt.2 b hb) hne).trans (K4.out b hb hne)
set_option maxRecDepth 100000 in
set_option maxHeartbeats 4000000 in
theorem lsStep_ok {x : LsM} (h : IsMem Q w w0 w gm dv pv s) (hc : Calm s) {i : Nat} (hi : i ≤ 1000) (fine : Fine i s.dev) (ha : I64 a) (hp : x.part = 0 ∨ x.part = 1 ∨ x.part = 2 ∨ x.part = 3) (hw : W64 wd) (hb : Blk w gp 242 (x.cells t a wd old)) (qp : Q gp) (p0 : w0.heap.size ≤ gp) :
    Calls Tryz.prog 78 #[.pointer (some ⟨gp, 0, none⟩), .pointer (some ⟨gm, 0, none⟩)] w (StepPost Q w0 w gm gp 242 dv pv (lsS t a wd old x s).2 (lsS t a wd old x s).1.dn ((lsS t a wd old x s).1.cells t a wd old)) := by
  obtain ⟨part, wh, dn, put, wr⟩ := x
  simp only at hp
  have c5 : w.cell? ⟨gp, 5, none⟩ = some (.bool dn) := hb.cell 5
  have c2 : w.cell? ⟨gp, 2, none⟩ = some (.int .i64 part) := hb.cell 2
  cases dn
  · rcases hp with rfl | rfl | rfl | rfl
    · have e1 : lsS t a wd old ⟨0, wh, false, put, wr⟩ s = (if swapB s a old = true then ⟨1, (s.swap t a old wd).clock, false, true, writesV (s.swap t a old wd).dev a⟩ else ⟨0, wh, true, false, wr⟩, s.swap t a old wd) := rfl
      rw [e1]
      have HL := Lib.hid (lsSwap_ok h hc ha hw hb qp p0)
      generalize writesV (s.swap t a old wd).dev a = wv at *
      generalize (s.swap t a old wd).clock = ck at *
      generalize s.swap t a old wd = s1 at *
      generalize swapB s a old = d at *
      obtain ⟨X, hX⟩ : ∃ X : LsM, (if d = true then (⟨1, ck, false, true, wv⟩ : LsM) else ⟨0, wh, true, false, wr⟩) = X := ⟨_, rfl⟩
      rw [hX]
      have HX := Lib.hid hX
      clear h hb hc fine e1 hX
      go_enter Tryz.func78, Tryz.ntmps78
      go_wp2_with fail
      refine (lsDone_ok _ gp false c5).mono ?_
      rintro e w' ⟨rfl, rfl⟩
      go_wp2_with fail
      refine HL.out.mono ?_
      rintro e w1 ⟨⟨u, rfl⟩, m1, b1, k1⟩
      have M1 := Lib.hid m1
      have K1 := Lib.hid k1
      clear m1 k1 HL c5 c2
      cases d
      · have e9 : (⟨0, wh, true, false, wr⟩ : LsM) = X := by simpa using HX.out
        simp only [reduceCtorEq, if_false] at b1
        have c5 : w1.cell? ⟨gp, 5, none⟩ = some (.bool true) := b1.cell 5
        have B1 := Lib.hid b1
        clear b1
        go_wp2_with fail
        go_ret
        rw [← e9]
        exact ⟨rfl, M1.out, B1.out, K1.out⟩
      · have e9 : (⟨1, ck, false, true, wv⟩ : LsM) = X := by simpa using HX.out
        simp only [if_pos] at b1
        have c5 : w1.cell? ⟨gp, 5, none⟩ = some (.bool false) := b1.cell 5
        have B1 := Lib.hid b1
        clear b1
        go_wp2_with fail
        go_ret
        rw [← e9]
        exact ⟨rfl, M1.out, B1.out, K1.out⟩
    · have HL := Lib.hid (keep_1 h hc hi fine ha hb qp p0)
      clear h hb hc fine
      go_enter Tryz.func78, Tryz.ntmps78
      go_wp2_with fail
      refine (lsDone_ok _ gp false c5).mono ?_
      rintro e w' ⟨rfl, rfl⟩
      go_wp2_with fail
      refine HL.out.mono ?_
      rintro e w1 ⟨rfl, m1, b1, k1⟩
      have c5 : w1.cell? ⟨gp, 5, none⟩ = some (.bool false) := b1.cell 5
      have z5 : w1.frozen? ⟨gp, 5, none⟩ = false := b1.frozen 5
      have M1 := Lib.hid m1
      have B1 := Lib.hid b1
      have K1 := Lib.hid k1
      clear m1 b1 k1 HL c2
      go_wp2_with fail
      go_ret
      have f : Fr (fun b => b = gp) w1 (w1.setCell ⟨gp, 5, none⟩ (.bool false)) := Fr.setCell (S := fun b => b = gp) (p := ⟨gp, 5, none⟩) (Fr.refl _ w1) (Or.inl rfl) _
      exact ⟨rfl, M1.out.turn f (fun b e => by rw [e]; exact qp) (fun b e => by rw [e]; exact p0), B1.out.set 5 _, fun b hb hne => (f.block b (M1.out.lt.2 b hb) hne).trans (K1.out b hb hne)⟩
    · have HL := Lib.hid (keep_2 h hc hi fine ha hb qp p0)
      clear h hb hc fine
      go_enter Tryz.func78, Tryz.ntmps78
      go_wp2_with fail
      refine (lsDone_ok _ gp false c5).mono ?_
      rintro e w' ⟨rfl, rfl⟩
      go_wp2_with fail
      refine HL.out.mono ?_
      rintro e w1 ⟨rfl, m1, b1, k1⟩
      have c5 : w1.cell? ⟨gp, 5, none⟩ = some (.bool false) := b1.cell 5
      have z5 : w1.frozen? ⟨gp, 5, none⟩ = false := b1.frozen 5
      have M1 := Lib.hid m1
      have B1 := Lib.hid b1
      have K1 := Lib.hid k1
      clear m1 b1 k1 HL c2
      go_wp2_with fail
      go_ret
      have f : Fr (fun b => b = gp) w1 (w1.setCell ⟨gp, 5, none⟩ (.bool false)) := Fr.setCell (S := fun b => b = gp) (p := ⟨gp, 5, none⟩) (Fr.refl _ w1) (Or.inl rfl) _
      exact ⟨rfl, M1.out.turn f (fun b e => by rw [e]; exact qp) (fun b e => by rw [e]; exact p0), B1.out.set 5 _, fun b hb hne => (f.block b (M1.out.lt.2 b hb) hne).trans (K1.out b hb hne)⟩
    · have HL := Lib.hid (keep_3 h hc ha hw hb qp p0)
      clear h hb hc fine
      go_enter Tryz.func78, Tryz.ntmps78
      go_wp2_with fail
      refine (lsDone_ok _ gp false c5).mono ?_
      rintro e w' ⟨rfl, rfl⟩
      go_wp2_with fail
      refine HL.out.mono ?_
      rintro e w1 ⟨rfl, m1, b1, k1⟩
      have c5 : w1.cell? ⟨gp, 5, none⟩ = some (.bool false) := b1.cell 5
      have z5 : w1.frozen? ⟨gp, 5, none⟩ = false := b1.frozen 5
      have M1 := Lib.hid m1
      have B1 := Lib.hid b1
      have K1 := Lib.hid k1
      clear m1 b1 k1 HL c2
      go_wp2_with fail
      go_ret
      have f : Fr (fun b => b = gp) w1 (w1.setCell ⟨gp, 5, none⟩ (.bool true)) := Fr.setCell (S := fun b => b = gp) (p := ⟨gp, 5, none⟩) (Fr.refl _ w1) (Or.inl rfl) _
      exact ⟨rfl, M1.out.turn f (fun b e => by rw [e]; exact qp) (fun b e => by rw [e]; exact p0), B1.out.set 5 _, fun b hb hne => (f.block b (M1.out.lt.2 b hb) hne).trans (K1.out b hb hne)⟩
  · have H := Lib.hid h
    have HB := Lib.hid hb
    clear h hb hc fine
    go_enter Tryz.func78, Tryz.ntmps78
    go_wp2_with fail
    refine (lsDone_ok _ gp true c5).mono ?_
    rintro e w' ⟨rfl, rfl⟩
    go_wp2_with fail
    go_ret
    exact ⟨rfl, H.out, HB.out, fun _ _ _ => rfl⟩
end
theorem newRead_ok (w : World) (t a : Int) : Calls Tryz.prog 69 #[.int .i64 t, .int .i64 a] w fun e w' => ∃ g, e = .returned (.pointer (some ⟨g, 0, none⟩)) ∧ w.heap.size ≤ g ∧ Blk w' g 240 (LrM.cells ⟨0, 0, 0, false⟩ t a) ∧ Ext w w' := by
  go_enter Tryz.func69, Tryz.ntmps69
  go_wp2_with fail
  go_ret
  exact ⟨w.heap.size, rfl, Nat.le_refl _, Blk.new w _ _, (Ext.refl w).alloc _⟩
theorem newSet_ok (w : World) (t a old wd : Int) (ho : W64 old) (hw : W64 wd) : Calls Tryz.prog 76 #[.int .i64 t, .int .i64 a, .int .u64 old, .int .u64 wd] w fun e w' => ∃ g, e = .returned (.pointer (some ⟨g, 0, none⟩)) ∧ w.heap.size ≤ g ∧ Blk w' g 242 (LsM.cells ⟨0, 0, false, false, 0⟩ t a (soN wd) (clN old)) ∧ Ext w w' := by
  have HS : Hid (∀ W, Calls Tryz.prog 171 #[.int .u64 wd] W fun e w' => e = .returned (.int .u64 (soN wd)) ∧ Ext W w') := Lib.hid (fun W => soil_any wd hw.1 hw.2 W)
  have HC : Hid (∀ W, Calls Tryz.prog 172 #[.int .u64 old] W fun e w' => e = .returned (.int .u64 (clN old)) ∧ Ext W w') := Lib.hid (fun W => clean_any old ho.1 ho.2 W)
  clear ho hw
  generalize soN wd = z at *
  generalize clN old = y at *
  go_enter Tryz.func76, Tryz.ntmps76
  go_wp2_with fail
  refine (HS.out _).mono ?_
  rintro e w1 ⟨rfl, x1⟩
  go_wp2_with fail
  refine (HC.out _).mono ?_
  rintro e w2 ⟨rfl, x2⟩
  have X2 := Lib.hid (x1.trans x2)
  clear x1 x2
  go_wp2_with fail
  go_ret
  exact ⟨w2.heap.size, rfl, X2.out.size, Blk.new w2 _ _, X2.out.alloc _⟩
theorem lrWord_ok (w : World) (g : Nat) (wd : Int) (d : Bool) (c3 : w.cell? ⟨g, 3, none⟩ = some (.int .u64 wd)) (c5 : w.cell? ⟨g, 5, none⟩ = some (.bool d)) :
    Calls Tryz.prog 74 #[.pointer (some ⟨g, 0, none⟩)] w fun e w' => e = .returned (.int .u64 (if d = true then wd else 0)) ∧ w = w' := by
  cases d
  · go_enter Tryz.func74, Tryz.ntmps74
    go_wp2_with fail
    go_ret
    exact ⟨rfl, rfl⟩
  · go_enter Tryz.func74, Tryz.ntmps74
    go_wp2_with fail
    go_ret
    exact ⟨rfl, rfl⟩
theorem lrWhen_ok (w : World) (g : Nat) (wh : Int) (d : Bool) (c4 : w.cell? ⟨g, 4, none⟩ = some (.int .i64 wh)) (c5 : w.cell? ⟨g, 5, none⟩ = some (.bool d)) :
    Calls Tryz.prog 75 #[.pointer (some ⟨g, 0, none⟩)] w fun e w' => e = .returned (.int .i64 (if d = true then wh else -1)) ∧ w = w' := by
  cases d
  · go_enter Tryz.func75, Tryz.ntmps75
    go_wp2_with fail
    go_ret
    exact ⟨rfl, rfl⟩
  · go_enter Tryz.func75, Tryz.ntmps75
    go_wp2_with fail
    go_ret
    exact ⟨rfl, rfl⟩
theorem lsPut_ok (w : World) (g : Nat) (p : Bool) (c7 : w.cell? ⟨g, 7, none⟩ = some (.bool p)) :
    Calls Tryz.prog 81 #[.pointer (some ⟨g, 0, none⟩)] w fun e w' => e = .returned (.bool p) ∧ w = w' := by
  go_enter Tryz.func81, Tryz.ntmps81
  go_wp2_with fail
  go_ret
  exact ⟨rfl, rfl⟩
theorem lsWhen_ok (w : World) (g : Nat) (wh : Int) (p : Bool) (c4 : w.cell? ⟨g, 4, none⟩ = some (.int .i64 wh)) (c7 : w.cell? ⟨g, 7, none⟩ = some (.bool p)) :
    Calls Tryz.prog 82 #[.pointer (some ⟨g, 0, none⟩)] w fun e w' => e = .returned (.int .i64 (if p = true then wh else -1)) ∧ w = w' := by
  have HP := Lib.hid (lsPut_ok w g p c7)
  cases p
  · go_enter Tryz.func82, Tryz.ntmps82
    go_wp2_with fail
    refine HP.out.mono ?_
    rintro e w' ⟨rfl, rfl⟩
    go_wp2_with fail
    go_ret
    exact ⟨rfl, rfl⟩
  · go_enter Tryz.func82, Tryz.ntmps82
    go_wp2_with fail
    refine HP.out.mono ?_
    rintro e w' ⟨rfl, rfl⟩
    go_wp2_with fail
    go_ret
    exact ⟨rfl, rfl⟩
theorem lsWrites_ok (w : World) (g : Nat) (wr : Int) (c8 : w.cell? ⟨g, 8, none⟩ = some (.int .i64 wr)) :
    Calls Tryz.prog 83 #[.pointer (some ⟨g, 0, none⟩)] w fun e w' => e = .returned (.int .i64 wr) ∧ w = w' := by
  go_enter Tryz.func83, Tryz.ntmps83
  go_wp2_with fail
  go_ret
  exact ⟨rfl, rfl⟩
end Go.Proofs.YtndplpfbohigpaaGreat

/- The document's Read and Set, each step. Conditions: those that each theorem names. -/
namespace Go.Proofs.YtndplpfbohigpaaGreat
open Go.ChangeShapes Go.WideShapes Go.ChangeAt Go.RowKit
set_option linter.unusedVariables false
theorem swap_n (s : MSt) (t a z x : Int) : (s.swap t a z x).dev.n = s.dev.n := by
  have hp : (s.put a x).dev.n = s.dev.n := by
    unfold MSt.put
    split
    · exact (act_n s.dev 5 0 0 a x).1
    · rfl
  unfold MSt.swap; split
  · split
    · exact hp
    · rfl
  · rfl
section
variable {B : Nat} {w : World} {g : Nat} {R : RefB} {rv : Value} {gq : Nat} {st : MSt} {t a got wd wh : Int}
set_option maxRecDepth 100000 in
set_option maxHeartbeats 4000000 in
theorem rlr_2 (h : IsRMem B w g R rv st) (sd : Sound st.dev) (hc : Calm st) {i : Nat} (hi : i ≤ 1000) (fine : Fine i st.dev) (ha : I64 a) (hb : Blk w gq 119 (RLr.cells ⟨2, got, wd, wh⟩ t a)) (ho : ¬ rfoot g R rv gq) :
    Calls Tryz.prog 72 #[.pointer (some ⟨gq, 0, none⟩), .pointer (some ⟨g, 0, none⟩)] w (RPost B w g R rv gq 119 (RLr.cells ⟨3, got, wd, wh⟩ t a) (st.flush t a)) := by
  have M := Lib.hid ((RG.of h hb ho).ext ((Ext.refl w).drew))
  have HL : Hid (∀ W, RG B w W g R rv gq 119 (RLr.cells ⟨2, got, wd, wh⟩ t a) st → Calls Tryz.prog 113 #[.pointer (some ⟨g, 0, none⟩), .int .i64 4, .int .i64 t, .int .i64 a, .int .u64 0, .int .u64 0] W fun e w' => (∃ u, e = .returned u) ∧ RG B w w' g R rv gq 119 (RLr.cells ⟨2, got, wd, wh⟩ t a) (st.flush t a)) := Lib.hid (fun W m => (refFlush7 m.ref sd hi fine hc t a 0 0 ha.1 ha.2).mono (by rintro e w' ⟨⟨u, rfl⟩, r1, f1⟩; exact ⟨⟨_, rfl⟩, m.to r1 f1⟩))
  have HP : Hid (∀ W s', RG B w W g R rv gq 119 (RLr.cells ⟨2, got, wd, wh⟩ t a) s' → W.cell? ⟨gq, 0, none⟩ = some (.int .i64 t) ∧ W.cell? ⟨gq, 1, none⟩ = some (.int .i64 a)) := Lib.hid (fun W s' m => ⟨m.blk.cell 0, m.blk.cell 1⟩)
  generalize st.flush t a = st1 at *
  have c0 : w.cell? ⟨gq, 0, none⟩ = some (.int .i64 t) := hb.cell 0
  have c1 : w.cell? ⟨gq, 1, none⟩ = some (.int .i64 a) := hb.cell 1
  have c2 : w.cell? ⟨gq, 2, none⟩ = some (.int .i64 2) := hb.cell 2
  clear h hb sd hc ha fine
  go_enter Tryz.func72, Tryz.ntmps72
  go_wp2_with fail
  go_region_held3 (fun W => W.cell? ⟨gq, 0, none⟩ = some (.int .i64 t) ∧ W.cell? ⟨gq, 1, none⟩ = some (.int .i64 a)) (first | exact HP.out _ _ M.out | go_keep) (first
    | (go_at_call 113; refine (HL.out _ M.out).mono ?_; rintro e w1 ⟨⟨u, rfl⟩, m1⟩; replace M := Lib.hid m1; clear m1))
  all_goals
    have y2 : w1.cell? ⟨gq, 2, none⟩ = some (.int .i64 2) := M.out.blk.cell 2
    have z2 : w1.frozen? ⟨gq, 2, none⟩ = false := M.out.blk.frozen 2
    have M2 := Lib.hid (M.out.put 2 (.int .i64 3))
    go_wp2_with fail
    (first | (refine bodyPost_ret (results_none rfl _ _ _) rfl ?_) | (refine bodyPost_end (results_none rfl _ _ _) rfl ?_))
    exact ⟨⟨_, rfl⟩, M2.out⟩
set_option maxRecDepth 100000 in
set_option maxHeartbeats 4000000 in
theorem rlr_3 (h : IsRMem B w g R rv st) (sd : Sound st.dev) (hc : Calm st) {i : Nat} (hi : i ≤ 1000) (fine : Fine i st.dev) (ha : I64 a) (hb : Blk w gq 119 (RLr.cells ⟨3, got, wd, wh⟩ t a)) (ho : ¬ rfoot g R rv gq) :
    Calls Tryz.prog 72 #[.pointer (some ⟨gq, 0, none⟩), .pointer (some ⟨g, 0, none⟩)] w (RPost B w g R rv gq 119 (RLr.cells ⟨4, got, wd, wh⟩ t a) (st.fence t)) := by
  have M := Lib.hid (RG.of h hb ho)
  have HL : Hid (∀ W, RG B w W g R rv gq 119 (RLr.cells ⟨3, got, wd, wh⟩ t a) st → Calls Tryz.prog 113 #[.pointer (some ⟨g, 0, none⟩), .int .i64 5, .int .i64 t, .int .i64 0, .int .u64 0, .int .u64 0] W fun e w' => (∃ u, e = .returned u) ∧ RG B w w' g R rv gq 119 (RLr.cells ⟨3, got, wd, wh⟩ t a) (st.fence t)) := Lib.hid (fun W m => (refFence7 m.ref sd hi fine hc t 0 0 0 (by decide) (by decide)).mono (by rintro e w' ⟨⟨u, rfl⟩, r1, f1⟩; exact ⟨⟨_, rfl⟩, m.to r1 f1⟩))
  generalize st.fence t = st1 at *
  have c0 : w.cell? ⟨gq, 0, none⟩ = some (.int .i64 t) := hb.cell 0
  have c2 : w.cell? ⟨gq, 2, none⟩ = some (.int .i64 3) := hb.cell 2
  clear h hb sd hc ha fine
  go_enter Tryz.func72, Tryz.ntmps72
  go_wp2_with fail
  refine (HL.out _ M.out).mono ?_
  rintro e w1 ⟨⟨u, rfl⟩, m1⟩
  replace M := Lib.hid m1
  clear m1
  have y2 : w1.cell? ⟨gq, 2, none⟩ = some (.int .i64 3) := M.out.blk.cell 2
  have z2 : w1.frozen? ⟨gq, 2, none⟩ = false := M.out.blk.frozen 2
  have M2 := Lib.hid (M.out.put 2 (.int .i64 4))
  go_wp2_with fail
  (first | (refine bodyPost_ret (results_none rfl _ _ _) rfl ?_) | (refine bodyPost_end (results_none rfl _ _ _) rfl ?_))
  exact ⟨⟨_, rfl⟩, M2.out⟩
set_option maxRecDepth 100000 in
set_option maxHeartbeats 4000000 in
theorem rlr_4 (h : IsRMem B w g R rv st) (sd : Sound st.dev) (hc : Calm st) (hw : W64 got) (ha : I64 a) (hb : Blk w gq 119 (RLr.cells ⟨4, got, wd, wh⟩ t a)) (ho : ¬ rfoot g R rv gq) :
    Calls Tryz.prog 72 #[.pointer (some ⟨gq, 0, none⟩), .pointer (some ⟨g, 0, none⟩)] w (RPost B w g R rv gq 119 (RLr.cells ⟨1, got, wd, wh⟩ t a) (st.swap t a got (clN got))) := by
  have M := Lib.hid ((RG.of h hb ho).ext ((Ext.refl w).drew))
  have HL : Hid (∀ W, RG B w W g R rv gq 119 (RLr.cells ⟨4, got, wd, wh⟩ t a) st → Calls Tryz.prog 113 #[.pointer (some ⟨g, 0, none⟩), .int .i64 3, .int .i64 t, .int .i64 a, .int .u64 got, .int .u64 (clN got)] W fun e w' => (∃ u, e = .returned u) ∧ RG B w w' g R rv gq 119 (RLr.cells ⟨4, got, wd, wh⟩ t a) (st.swap t a got (clN got))) := Lib.hid (fun W m => (refSwap7v m.ref sd hc t a got (clN got) ha.1 ha.2).mono (by rintro e w' ⟨rfl, r1, f1⟩; exact ⟨⟨_, rfl⟩, m.to r1 f1⟩))
  have HCl : Hid (∀ W, Calls Tryz.prog 85 #[.int .u64 got] W fun e w' => e = .returned (.int .u64 (clN got)) ∧ Ext W w') := Lib.hid (fun W => rclean_any got hw.1 hw.2 W)
  have HP : Hid (∀ W s', RG B w W g R rv gq 119 (RLr.cells ⟨4, got, wd, wh⟩ t a) s' → W.cell? ⟨gq, 0, none⟩ = some (.int .i64 t) ∧ W.cell? ⟨gq, 1, none⟩ = some (.int .i64 a) ∧ W.cell? ⟨gq, 3, none⟩ = some (.int .u64 got)) := Lib.hid (fun W s' m => ⟨m.blk.cell 0, m.blk.cell 1, m.blk.cell 3⟩)
  generalize st.swap t a got (clN got) = st1 at *
  have c0 : w.cell? ⟨gq, 0, none⟩ = some (.int .i64 t) := hb.cell 0
  have c1 : w.cell? ⟨gq, 1, none⟩ = some (.int .i64 a) := hb.cell 1
  have c2 : w.cell? ⟨gq, 2, none⟩ = some (.int .i64 4) := hb.cell 2
  have c3 : w.cell? ⟨gq, 3, none⟩ = some (.int .u64 got) := hb.cell 3
  clear h hb sd hc ha
  go_enter Tryz.func72, Tryz.ntmps72
  go_wp2_with fail
  go_region_held3 (fun W => W.cell? ⟨gq, 0, none⟩ = some (.int .i64 t) ∧ W.cell? ⟨gq, 1, none⟩ = some (.int .i64 a) ∧ W.cell? ⟨gq, 3, none⟩ = some (.int .u64 got)) (first | exact HP.out _ _ M.out | go_keep) (first
    | (go_at_call 85; refine (HCl.out _).mono ?_; rintro e w1 ⟨rfl, x1⟩; replace M := Lib.hid (M.out.ext x1); clear x1)
    | (go_at_call 113; refine (HL.out _ M.out).mono ?_; rintro e w1 ⟨⟨u, rfl⟩, m1⟩; replace M := Lib.hid m1; clear m1))
  all_goals
    have y2 : w1.cell? ⟨gq, 2, none⟩ = some (.int .i64 4) := M.out.blk.cell 2
    have z2 : w1.frozen? ⟨gq, 2, none⟩ = false := M.out.blk.frozen 2
    have M2 := Lib.hid (M.out.put 2 (.int .i64 1))
    go_wp2_with fail
    (first | (refine bodyPost_ret (results_none rfl _ _ _) rfl ?_) | (refine bodyPost_end (results_none rfl _ _ _) rfl ?_))
    exact ⟨⟨_, rfl⟩, M2.out⟩
set_option maxRecDepth 100000 in
set_option maxHeartbeats 4000000 in
theorem rlr_1 (h : IsRMem B w g R rv st) (sd : Sound st.dev) (hc : Calm st) (hv : W64 (peekV st a)) (ha : I64 a) (hb : Blk w gq 119 (RLr.cells ⟨1, got, wd, wh⟩ t a)) (ho : ¬ rfoot g R rv gq) :
    Calls Tryz.prog 72 #[.pointer (some ⟨gq, 0, none⟩), .pointer (some ⟨g, 0, none⟩)] w (RPost B w g R rv gq 119 ((if BM.dirtyB (peekV st a) = true then (⟨2, peekV st a, wd, wh⟩ : RLr) else ⟨0, peekV st a, peekV st a, (st.load t a).clock⟩).cells t a) (st.load t a)) := by
  have M := Lib.hid ((RG.of h hb ho).ext ((Ext.refl w).drew))
  have HL : Hid (∀ W, RG B w W g R rv gq 119 (RLr.cells ⟨1, got, wd, wh⟩ t a) st → Calls Tryz.prog 113 #[.pointer (some ⟨g, 0, none⟩), .int .i64 1, .int .i64 t, .int .i64 a, .int .u64 0, .int .u64 0] W fun e w' => e = .returned (accV (st.load t a).last) ∧ RG B w w' g R rv gq 119 (RLr.cells ⟨1, got, wd, wh⟩ t a) (st.load t a)) := Lib.hid (fun W m => (refLoad7v m.ref sd hc t a 0 0 ha.1 ha.2).mono (by rintro e w' ⟨rfl, r1, f1⟩; exact ⟨rfl, m.to r1 f1⟩))
  obtain ⟨a1, a2, a3, a4, a5, hacc⟩ := load_tells st t a
  rw [hacc] at HL
  have hf3 := fun W => fldA3 a1 a2 a3 (peekV st a) a4 a5 W
  have HDi := Lib.hid (fun W => rdirty_any (peekV st a) hv.1 hv.2 W)
  have HP : Hid (∀ W s', RG B w W g R rv gq 119 (RLr.cells ⟨1, got, wd, wh⟩ t a) s' → W.cell? ⟨gq, 0, none⟩ = some (.int .i64 t) ∧ W.cell? ⟨gq, 1, none⟩ = some (.int .i64 a)) := Lib.hid (fun W s' m => ⟨m.blk.cell 0, m.blk.cell 1⟩)
  have HP2 : Hid (∀ W s' u, RG B w W g R rv gq 119 (RLr.cells ⟨1, got, wd, wh⟩ t a) s' → (W.setCell ⟨gq, 3, none⟩ u).cell? ⟨gq, 0, none⟩ = some (.int .i64 t) ∧ (W.setCell ⟨gq, 3, none⟩ u).cell? ⟨gq, 1, none⟩ = some (.int .i64 a)) := Lib.hid (fun W s' u m => ⟨(m.put 3 u).blk.cell 0, (m.put 3 u).blk.cell 1⟩)
  obtain ⟨ck, hck⟩ : ∃ ck, (st.load t a).clock = ck := ⟨_, rfl⟩
  rw [hck]
  have HCk := Lib.hid hck
  clear hck
  generalize BM.dirtyB (peekV st a) = d at *
  generalize peekV st a = v at *
  generalize st.load t a = st1 at *
  obtain ⟨rr, hrr⟩ : ∃ rr : RLr, (if d = true then (⟨2, v, wd, wh⟩ : RLr) else ⟨0, v, v, ck⟩) = rr := ⟨_, rfl⟩
  rw [hrr]
  have HRr := Lib.hid hrr
  clear hrr
  have c0 : w.cell? ⟨gq, 0, none⟩ = some (.int .i64 t) := hb.cell 0
  have c1 : w.cell? ⟨gq, 1, none⟩ = some (.int .i64 a) := hb.cell 1
  have c2 : w.cell? ⟨gq, 2, none⟩ = some (.int .i64 1) := hb.cell 2
  clear h hb sd hc ha hv hacc
  go_enter Tryz.func72, Tryz.ntmps72
  go_wp2_with fail
  go_region_held3 (fun W => W.cell? ⟨gq, 0, none⟩ = some (.int .i64 t) ∧ W.cell? ⟨gq, 1, none⟩ = some (.int .i64 a)) (first | exact HP.out _ _ M.out | exact HP2.out _ _ _ M.out | go_keep) (first
    | (go_at_call 113; refine (HL.out _ M.out).mono ?_; rintro e w1 ⟨rfl, m1⟩; replace M := Lib.hid m1; have y3 : w1.cell? ⟨gq, 3, none⟩ = some (.int .u64 got) := M.out.blk.cell 3; have z3 : w1.frozen? ⟨gq, 3, none⟩ = false := M.out.blk.frozen 3; clear m1))
  all_goals
    have y2 : w1.cell? ⟨gq, 2, none⟩ = some (.int .i64 1) := M.out.blk.cell 2
    have z2 : w1.frozen? ⟨gq, 2, none⟩ = false := M.out.blk.frozen 2
    have M2 : Hid (RG B w ((w1.setCell ⟨gq, 3, none⟩ (.int .u64 v)).setCell ⟨gq, 2, none⟩ (.int .i64 2)) g R rv gq 119 (RLr.cells ⟨2, v, wd, wh⟩ t a) st1) := Lib.hid ((M.out.put 3 (.int .u64 v)).put 2 (.int .i64 2))
    have d3 : ((w1.setCell ⟨gq, 3, none⟩ (.int .u64 v)).setCell ⟨gq, 2, none⟩ (.int .i64 2)).cell? ⟨gq, 3, none⟩ = some (.int .u64 v) := M2.out.blk.cell 3
    clear c0 c1 HP HP2 HL M
    go_wp2_with fail
    refine (HDi.out _).mono ?_
    rintro e w2 ⟨rfl, x2⟩
    have M3 := Lib.hid (M2.out.ext x2)
    have y3 : w2.cell? ⟨gq, 3, none⟩ = some (.int .u64 v) := M3.out.blk.cell 3
    have k4 : w2.cell? ⟨gq, 4, none⟩ = some (.int .u64 wd) := M3.out.blk.cell 4
    have l4 : w2.frozen? ⟨gq, 4, none⟩ = false := M3.out.blk.frozen 4
    have k5 : w2.cell? ⟨gq, 5, none⟩ = some (.int .i64 wh) := M3.out.blk.cell 5
    have l5 : w2.frozen? ⟨gq, 5, none⟩ = false := M3.out.blk.frozen 5
    have k2 : w2.cell? ⟨gq, 2, none⟩ = some (.int .i64 2) := M3.out.blk.cell 2
    have l2 : w2.frozen? ⟨gq, 2, none⟩ = false := M3.out.blk.frozen 2
    have g2 : w2.cell? ⟨g, 2, none⟩ = some (.int .i64 ck) := by rw [← HCk.out]; exact M3.out.ref.blk.cell 2
    have hne : ¬ g = gq := fun e => M3.out.off (Or.inl e.symm)
    have hne2 : ¬ gq = g := fun e => M3.out.off (Or.inl e)
    clear x2 d3 M2 y2 z2 z3
    cases d
    · have M6 := Lib.hid (((M3.out.put 4 (.int .u64 v)).put 5 (.int .i64 ck)).put 2 (.int .i64 0))
      go_wp2_with fail
      (first | (refine bodyPost_ret (results_none rfl _ _ _) rfl ?_) | (refine bodyPost_end (results_none rfl _ _ _) rfl ?_))
      have e9 : (⟨0, v, v, ck⟩ : RLr) = rr := by simpa using HRr.out
      rw [← e9]
      exact ⟨⟨_, rfl⟩, M6.out⟩
    · go_wp2_with fail
      (first | (refine bodyPost_ret (results_none rfl _ _ _) rfl ?_) | (refine bodyPost_end (results_none rfl _ _ _) rfl ?_))
      have e9 : (⟨2, v, wd, wh⟩ : RLr) = rr := by simpa using HRr.out
      rw [← e9]
      exact ⟨⟨_, rfl⟩, M3.out⟩
theorem rlrStep_ok {r : RLr} (h : IsRMem B w g R rv st) (sd : Sound st.dev) (hc : Calm st) {i : Nat} (hi : i ≤ 1000) (fine : Fine i st.dev) (ha : I64 a) (hb : Blk w gq 119 (r.cells t a)) (ho : ¬ rfoot g R rv gq) (hr : r.Wf) (hU : ∀ b, W64 (peekV st b)) :
    Calls Tryz.prog 72 #[.pointer (some ⟨gq, 0, none⟩), .pointer (some ⟨g, 0, none⟩)] w (RPost B w g R rv gq 119 ((rlrS t a r st).1.cells t a) (rlrS t a r st).2) := by
  obtain ⟨line, got, wd, wh⟩ := r
  obtain ⟨hl, hg⟩ := hr
  simp only at hl hg
  rcases hl with rfl | rfl | rfl | rfl | rfl
  · have M0 := Lib.hid (RG.of h hb ho)
    have c2 : w.cell? ⟨gq, 2, none⟩ = some (.int .i64 0) := hb.cell 2
    clear h hb sd hc fine hU
    go_enter Tryz.func72, Tryz.ntmps72
    go_wp2_with fail
    (first | (refine bodyPost_ret (results_none rfl _ _ _) rfl ?_) | (refine bodyPost_end (results_none rfl _ _ _) rfl ?_))
    exact ⟨⟨_, rfl⟩, M0.out⟩
  · exact rlr_1 h sd hc (hU a) ha hb ho
  · exact rlr_2 h sd hc hi fine ha hb ho
  · exact rlr_3 h sd hc hi fine ha hb ho
  · exact rlr_4 h sd hc hg ha hb ho
end
section
variable {B : Nat} {w : World} {g : Nat} {R : RefB} {rv : Value} {gq : Nat} {st : MSt} {t a old nw wh wr : Int} {put : Bool}
set_option maxRecDepth 100000 in
set_option maxHeartbeats 4000000 in
theorem rls_2 (h : IsRMem B w g R rv st) (sd : Sound st.dev) (hc : Calm st) {i : Nat} (hi : i ≤ 1000) (fine : Fine i st.dev) (ha : I64 a) (hb : Blk w gq 128 (RLs.cells ⟨2, put, wh, wr⟩ t a old nw)) (ho : ¬ rfoot g R rv gq) :
    Calls Tryz.prog 79 #[.pointer (some ⟨gq, 0, none⟩), .pointer (some ⟨g, 0, none⟩)] w (RPost B w g R rv gq 128 (RLs.cells ⟨3, put, wh, wr⟩ t a old nw) (st.flush t a)) := by
  have M := Lib.hid ((RG.of h hb ho).ext ((Ext.refl w).drew))
  have HL : Hid (∀ W, RG B w W g R rv gq 128 (RLs.cells ⟨2, put, wh, wr⟩ t a old nw) st → Calls Tryz.prog 113 #[.pointer (some ⟨g, 0, none⟩), .int .i64 4, .int .i64 t, .int .i64 a, .int .u64 0, .int .u64 0] W fun e w' => (∃ u, e = .returned u) ∧ RG B w w' g R rv gq 128 (RLs.cells ⟨2, put, wh, wr⟩ t a old nw) (st.flush t a)) := Lib.hid (fun W m => (refFlush7 m.ref sd hi fine hc t a 0 0 ha.1 ha.2).mono (by rintro e w' ⟨⟨u, rfl⟩, r1, f1⟩; exact ⟨⟨_, rfl⟩, m.to r1 f1⟩))
  have HP : Hid (∀ W s', RG B w W g R rv gq 128 (RLs.cells ⟨2, put, wh, wr⟩ t a old nw) s' → W.cell? ⟨gq, 0, none⟩ = some (.int .i64 t) ∧ W.cell? ⟨gq, 1, none⟩ = some (.int .i64 a)) := Lib.hid (fun W s' m => ⟨m.blk.cell 0, m.blk.cell 1⟩)
  generalize st.flush t a = st1 at *
  have c0 : w.cell? ⟨gq, 0, none⟩ = some (.int .i64 t) := hb.cell 0
  have c1 : w.cell? ⟨gq, 1, none⟩ = some (.int .i64 a) := hb.cell 1
  have c2 : w.cell? ⟨gq, 2, none⟩ = some (.int .i64 2) := hb.cell 2
  clear h hb sd hc ha fine
  go_enter Tryz.func79, Tryz.ntmps79
  go_wp2_with fail
  go_region_held3 (fun W => W.cell? ⟨gq, 0, none⟩ = some (.int .i64 t) ∧ W.cell? ⟨gq, 1, none⟩ = some (.int .i64 a)) (first | exact HP.out _ _ M.out | go_keep) (first
    | (go_at_call 113; refine (HL.out _ M.out).mono ?_; rintro e w1 ⟨⟨u, rfl⟩, m1⟩; replace M := Lib.hid m1; clear m1))
  all_goals
    have y2 : w1.cell? ⟨gq, 2, none⟩ = some (.int .i64 2) := M.out.blk.cell 2
    have z2 : w1.frozen? ⟨gq, 2, none⟩ = false := M.out.blk.frozen 2
    have M2 := Lib.hid (M.out.put 2 (.int .i64 3))
    go_wp2_with fail
    (first | (refine bodyPost_ret (results_none rfl _ _ _) rfl ?_) | (refine bodyPost_end (results_none rfl _ _ _) rfl ?_))
    exact ⟨⟨_, rfl⟩, M2.out⟩
set_option maxRecDepth 100000 in
set_option maxHeartbeats 4000000 in
theorem rls_3 (h : IsRMem B w g R rv st) (sd : Sound st.dev) (hc : Calm st) {i : Nat} (hi : i ≤ 1000) (fine : Fine i st.dev) (ha : I64 a) (hb : Blk w gq 128 (RLs.cells ⟨3, put, wh, wr⟩ t a old nw)) (ho : ¬ rfoot g R rv gq) :
    Calls Tryz.prog 79 #[.pointer (some ⟨gq, 0, none⟩), .pointer (some ⟨g, 0, none⟩)] w (RPost B w g R rv gq 128 (RLs.cells ⟨4, put, wh, wr⟩ t a old nw) (st.fence t)) := by
  have M := Lib.hid (RG.of h hb ho)
  have HL : Hid (∀ W, RG B w W g R rv gq 128 (RLs.cells ⟨3, put, wh, wr⟩ t a old nw) st → Calls Tryz.prog 113 #[.pointer (some ⟨g, 0, none⟩), .int .i64 5, .int .i64 t, .int .i64 0, .int .u64 0, .int .u64 0] W fun e w' => (∃ u, e = .returned u) ∧ RG B w w' g R rv gq 128 (RLs.cells ⟨3, put, wh, wr⟩ t a old nw) (st.fence t)) := Lib.hid (fun W m => (refFence7 m.ref sd hi fine hc t 0 0 0 (by decide) (by decide)).mono (by rintro e w' ⟨⟨u, rfl⟩, r1, f1⟩; exact ⟨⟨_, rfl⟩, m.to r1 f1⟩))
  generalize st.fence t = st1 at *
  have c0 : w.cell? ⟨gq, 0, none⟩ = some (.int .i64 t) := hb.cell 0
  have c2 : w.cell? ⟨gq, 2, none⟩ = some (.int .i64 3) := hb.cell 2
  clear h hb sd hc ha fine
  go_enter Tryz.func79, Tryz.ntmps79
  go_wp2_with fail
  refine (HL.out _ M.out).mono ?_
  rintro e w1 ⟨⟨u, rfl⟩, m1⟩
  replace M := Lib.hid m1
  clear m1
  have y2 : w1.cell? ⟨gq, 2, none⟩ = some (.int .i64 3) := M.out.blk.cell 2
  have z2 : w1.frozen? ⟨gq, 2, none⟩ = false := M.out.blk.frozen 2
  have M2 := Lib.hid (M.out.put 2 (.int .i64 4))
  go_wp2_with fail
  (first | (refine bodyPost_ret (results_none rfl _ _ _) rfl ?_) | (refine bodyPost_end (results_none rfl _ _ _) rfl ?_))
  exact ⟨⟨_, rfl⟩, M2.out⟩
set_option maxRecDepth 100000 in
set_option maxHeartbeats 4000000 in
theorem rls_4 (h : IsRMem B w g R rv st) (sd : Sound st.dev) (hc : Calm st) (hw : W64 nw) (ha : I64 a) (hb : Blk w gq 128 (RLs.cells ⟨4, put, wh, wr⟩ t a old nw)) (ho : ¬ rfoot g R rv gq) :
    Calls Tryz.prog 79 #[.pointer (some ⟨gq, 0, none⟩), .pointer (some ⟨g, 0, none⟩)] w (RPost B w g R rv gq 128 (RLs.cells ⟨0, put, wh, wr⟩ t a old nw) (st.swap t a (soN nw) nw)) := by
  have M := Lib.hid ((RG.of h hb ho).ext ((Ext.refl w).drew))
  have HL : Hid (∀ W, RG B w W g R rv gq 128 (RLs.cells ⟨4, put, wh, wr⟩ t a old nw) st → Calls Tryz.prog 113 #[.pointer (some ⟨g, 0, none⟩), .int .i64 3, .int .i64 t, .int .i64 a, .int .u64 (soN nw), .int .u64 nw] W fun e w' => (∃ u, e = .returned u) ∧ RG B w w' g R rv gq 128 (RLs.cells ⟨4, put, wh, wr⟩ t a old nw) (st.swap t a (soN nw) nw)) := Lib.hid (fun W m => (refSwap7v m.ref sd hc t a (soN nw) nw ha.1 ha.2).mono (by rintro e w' ⟨rfl, r1, f1⟩; exact ⟨⟨_, rfl⟩, m.to r1 f1⟩))
  have HSo : Hid (∀ W, Calls Tryz.prog 84 #[.int .u64 nw] W fun e w' => e = .returned (.int .u64 (soN nw)) ∧ Ext W w') := Lib.hid (fun W => rsoil_any nw hw.1 hw.2 W)
  have HP : Hid (∀ W s', RG B w W g R rv gq 128 (RLs.cells ⟨4, put, wh, wr⟩ t a old nw) s' → W.cell? ⟨gq, 0, none⟩ = some (.int .i64 t) ∧ W.cell? ⟨gq, 1, none⟩ = some (.int .i64 a) ∧ W.cell? ⟨gq, 4, none⟩ = some (.int .u64 nw)) := Lib.hid (fun W s' m => ⟨m.blk.cell 0, m.blk.cell 1, m.blk.cell 4⟩)
  generalize st.swap t a (soN nw) nw = st1 at *
  have c0 : w.cell? ⟨gq, 0, none⟩ = some (.int .i64 t) := hb.cell 0
  have c1 : w.cell? ⟨gq, 1, none⟩ = some (.int .i64 a) := hb.cell 1
  have c2 : w.cell? ⟨gq, 2, none⟩ = some (.int .i64 4) := hb.cell 2
  have c4 : w.cell? ⟨gq, 4, none⟩ = some (.int .u64 nw) := hb.cell 4
  clear h hb sd hc ha
  go_enter Tryz.func79, Tryz.ntmps79
  go_wp2_with fail
  go_region_held3 (fun W => W.cell? ⟨gq, 0, none⟩ = some (.int .i64 t) ∧ W.cell? ⟨gq, 1, none⟩ = some (.int .i64 a) ∧ W.cell? ⟨gq, 4, none⟩ = some (.int .u64 nw)) (first | exact HP.out _ _ M.out | go_keep) (first
    | (go_at_call 84; refine (HSo.out _).mono ?_; rintro e w1 ⟨rfl, x1⟩; replace M := Lib.hid (M.out.ext x1); clear x1)
    | (go_at_call 113; refine (HL.out _ M.out).mono ?_; rintro e w1 ⟨⟨u, rfl⟩, m1⟩; replace M := Lib.hid m1; clear m1))
  all_goals
    have y2 : w1.cell? ⟨gq, 2, none⟩ = some (.int .i64 4) := M.out.blk.cell 2
    have z2 : w1.frozen? ⟨gq, 2, none⟩ = false := M.out.blk.frozen 2
    have M2 := Lib.hid (M.out.put 2 (.int .i64 0))
    go_wp2_with fail
    (first | (refine bodyPost_ret (results_none rfl _ _ _) rfl ?_) | (refine bodyPost_end (results_none rfl _ _ _) rfl ?_))
    exact ⟨⟨_, rfl⟩, M2.out⟩
set_option maxRecDepth 100000 in
set_option maxHeartbeats 4000000 in
theorem rls_1 (h : IsRMem B w g R rv st) (sd : Sound st.dev) (hc : Calm st) (hw : W64 nw) (ha : I64 a) (hb : Blk w gq 128 (RLs.cells ⟨1, put, wh, wr⟩ t a old nw)) (ho : ¬ rfoot g R rv gq) :
    Calls Tryz.prog 79 #[.pointer (some ⟨gq, 0, none⟩), .pointer (some ⟨g, 0, none⟩)] w (RPost B w g R rv gq 128 ((if swapB st a old = true then (⟨2, true, (st.swap t a old (soN nw)).clock, if 0 ≤ a then writesV (st.swap t a old (soN nw)).dev a else wr⟩ : RLs) else ⟨0, put, wh, wr⟩).cells t a old nw) (st.swap t a old (soN nw))) := by
  have M0 : Hid (RG B w (w.setCell ⟨gq, 2, none⟩ (.int .i64 0)) g R rv gq 128 (RLs.cells ⟨0, put, wh, wr⟩ t a old nw) st) := Lib.hid ((RG.of h hb ho).put 2 (.int .i64 0))
  have HL : Hid (∀ W, RG B w W g R rv gq 128 (RLs.cells ⟨0, put, wh, wr⟩ t a old nw) st → Calls Tryz.prog 113 #[.pointer (some ⟨g, 0, none⟩), .int .i64 3, .int .i64 t, .int .i64 a, .int .u64 old, .int .u64 (soN nw)] W fun e w' => e = .returned (accV (st.swap t a old (soN nw)).last) ∧ RG B w w' g R rv gq 128 (RLs.cells ⟨0, put, wh, wr⟩ t a old nw) (st.swap t a old (soN nw))) := Lib.hid (fun W m => (refSwap7v m.ref sd hc t a old (soN nw) ha.1 ha.2).mono (by rintro e w' ⟨rfl, r1, f1⟩; exact ⟨rfl, m.to r1 f1⟩))
  have HSo : Hid (∀ W, Calls Tryz.prog 84 #[.int .u64 nw] W fun e w' => e = .returned (.int .u64 (soN nw)) ∧ Ext W w') := Lib.hid (fun W => rsoil_any nw hw.1 hw.2 W)
  obtain ⟨a1, a2, a3, a4, a5, hacc⟩ := swap_tells st t a old (soN nw)
  rw [hacc] at HL
  have hf5 := fun W => fldA5 a1 a2 a3 a4 a5 (swapB st a old) W
  have HP : Hid (∀ W s', RG B w W g R rv gq 128 (RLs.cells ⟨0, put, wh, wr⟩ t a old nw) s' → W.cell? ⟨gq, 0, none⟩ = some (.int .i64 t) ∧ W.cell? ⟨gq, 1, none⟩ = some (.int .i64 a) ∧ W.cell? ⟨gq, 3, none⟩ = some (.int .u64 old) ∧ W.cell? ⟨gq, 4, none⟩ = some (.int .u64 nw)) := Lib.hid (fun W s' m => ⟨m.blk.cell 0, m.blk.cell 1, m.blk.cell 3, m.blk.cell 4⟩)
  have HIn : Hid (swapB st a old = true → 0 ≤ a → a < ((st.swap t a old (soN nw)).dev.n : Int) * 8) := Lib.hid (fun h1 h0 => by
    rw [swap_n]
    unfold swapB peekB at h1
    rw [if_pos h0] at h1
    simp at h1
    exact h1.1)
  obtain ⟨ck, hck⟩ : ∃ ck, (st.swap t a old (soN nw)).clock = ck := ⟨_, rfl⟩
  rw [hck]
  have HCk := Lib.hid hck
  clear hck
  generalize swapB st a old = d at *
  generalize st.swap t a old (soN nw) = st1 at *
  obtain ⟨rr, hrr⟩ : ∃ rr : RLs, (if d = true then (⟨2, true, ck, if 0 ≤ a then writesV st1.dev a else wr⟩ : RLs) else ⟨0, put, wh, wr⟩) = rr := ⟨_, rfl⟩
  rw [hrr]
  have HRr := Lib.hid hrr
  clear hrr
  have hn1 := sd.n1
  clear hn1
  have c2 : w.cell? ⟨gq, 2, none⟩ = some (.int .i64 1) := hb.cell 2
  have z2 : w.frozen? ⟨gq, 2, none⟩ = false := hb.frozen 2
  have HA := Lib.hid ha
  clear h hb sd hc ha hacc hw
  go_enter Tryz.func79, Tryz.ntmps79
  go_upto_region 2 with fail
  generalize w.setCell ⟨gq, 2, none⟩ (.int .i64 0) = w0 at *
  have M := Lib.hid (M0.out.ext ((Ext.refl w0).drew))
  have c0 : w0.cell? ⟨gq, 0, none⟩ = some (.int .i64 t) := M0.out.blk.cell 0
  have c1 : w0.cell? ⟨gq, 1, none⟩ = some (.int .i64 a) := M0.out.blk.cell 1
  have c3 : w0.cell? ⟨gq, 3, none⟩ = some (.int .u64 old) := M0.out.blk.cell 3
  have c4 : w0.cell? ⟨gq, 4, none⟩ = some (.int .u64 nw) := M0.out.blk.cell 4
  clear c2 z2 M0
  go_wp2_with fail
  go_region_held3 (fun W => W.cell? ⟨gq, 0, none⟩ = some (.int .i64 t) ∧ W.cell? ⟨gq, 1, none⟩ = some (.int .i64 a) ∧ W.cell? ⟨gq, 3, none⟩ = some (.int .u64 old) ∧ W.cell? ⟨gq, 4, none⟩ = some (.int .u64 nw)) (first | exact HP.out _ _ M.out | go_keep) (first
    | (go_at_call 84; refine (HSo.out _).mono ?_; rintro e w1 ⟨rfl, x1⟩; replace M := Lib.hid (M.out.ext x1); clear x1)
    | (go_at_call 113; refine (HL.out _ M.out).mono ?_; rintro e w1 ⟨rfl, m1⟩; replace M := Lib.hid m1; clear m1))
  all_goals
    clear c0 c1 c3 c4 HP HL HSo
    cases d
    · go_wp2_with fail
      (first | (refine bodyPost_ret (results_none rfl _ _ _) rfl ?_) | (refine bodyPost_end (results_none rfl _ _ _) rfl ?_))
      have e9 : (⟨0, put, wh, wr⟩ : RLs) = rr := by simpa using HRr.out
      rw [← e9]
      exact ⟨⟨_, rfl⟩, M.out⟩
    · have HR2 : Hid ((⟨2, true, ck, if 0 ≤ a then writesV st1.dev a else wr⟩ : RLs) = rr) := Lib.hid (by simpa using HRr.out)
      have y5 : w1.cell? ⟨gq, 5, none⟩ = some (.bool put) := M.out.blk.cell 5
      have z5 : w1.frozen? ⟨gq, 5, none⟩ = false := M.out.blk.frozen 5
      have hne : ¬ g = gq := fun e => M.out.off (Or.inl e.symm)
      have hne2 : ¬ gq = g := fun e => M.out.off (Or.inl e)
      have y6 : w1.cell? ⟨gq, 6, none⟩ = some (.int .i64 wh) := M.out.blk.cell 6
      have z6 : w1.frozen? ⟨gq, 6, none⟩ = false := M.out.blk.frozen 6
      have g2 : w1.cell? ⟨g, 2, none⟩ = some (.int .i64 ck) := by rw [← HCk.out]; exact M.out.ref.blk.cell 2
      have M5 : Hid (RG B w ((w1.setCell ⟨gq, 5, none⟩ (.bool true)).setCell ⟨gq, 6, none⟩ (.int .i64 ck)) g R rv gq 128 (RLs.cells ⟨0, true, ck, wr⟩ t a old nw) st1) := Lib.hid ((M.out.put 5 (.bool true)).put 6 (.int .i64 ck))
      go_upto_region 5 with fail
      generalize (w1.setCell ⟨gq, 5, none⟩ (.bool true)).setCell ⟨gq, 6, none⟩ (.int .i64 ck) = w5 at *
      clear y5 z5 y6 z6 g2 M
      have c1 : w5.cell? ⟨gq, 1, none⟩ = some (.int .i64 a) := M5.out.blk.cell 1
      have y2 : w5.cell? ⟨gq, 2, none⟩ = some (.int .i64 0) := M5.out.blk.cell 2
      have z2 : w5.frozen? ⟨gq, 2, none⟩ = false := M5.out.blk.frozen 2
      have y7 : w5.cell? ⟨gq, 7, none⟩ = some (.int .i64 wr) := M5.out.blk.cell 7
      have z7 : w5.frozen? ⟨gq, 7, none⟩ = false := M5.out.blk.frozen 7
      by_cases h0 : 0 ≤ a
      · have hin := HIn.out rfl h0
        obtain ⟨p, rfl⟩ := Int.eq_ofNat_of_zero_le h0
        obtain ⟨m, hm⟩ : ∃ m, st1.dev.n = m := ⟨_, rfl⟩
        obtain ⟨q, hq⟩ : ∃ q : Nat, p / 8 = q := ⟨_, rfl⟩
        rw [hm] at hin
        have hqm : q < m := by omega
        have t1 : (p : Int).tdiv 8 = (q : Int) := by rw [Int.tdiv_eq_ediv_of_nonneg (by omega)]; omega
        have t2 : (p : Int) / 8 = (q : Int) := by omega
        have cg : w5.cell? ⟨g, 0, none⟩ = some (.pointer (some ⟨R.g, 0, none⟩)) := M5.out.ref.blk.cell 0
        have cr : w5.cell? ⟨R.g, 2, none⟩ = some (.slice (some ⟨R.gw, 0, none⟩) m m) := by rw [← hm]; exact M5.out.ref.dev.is.blk.cell 2
        have cw : w5.cell? ⟨R.gw, q, none⟩ = some (.int .i64 (st1.dev.writes.getD q 0)) := by
          have hh := M5.out.ref.dev.is
          have h2 := RowN.of_row hh.writes
          rw [hh.wlen, hm] at h2
          exact h2.cell (by omega)
        have HWV : Hid ((if (0 : Int) ≤ (p : Int) then writesV st1.dev (p : Int) else wr) = st1.dev.writes.getD q 0) := Lib.hid (by
          rw [if_pos h0]
          unfold writesV
          rw [hm, if_pos (by omega), t2]
          rfl)
        have HR3 : Hid ((⟨2, true, ck, st1.dev.writes.getD q 0⟩ : RLs) = rr) := Lib.hid (by rw [← HR2.out, HWV.out])
        generalize hwv : st1.dev.writes.getD q 0 = wv at *
        have p1 : decide ((0 : Int) ≤ (p : Int)) = true := by simp
        have p3 : decide (q < m) = true := by simp; omega
        have hl := HA.out.2
        have q2 : (q : Int) < 9223372036854775808 := by omega
        have q3 : -9223372036854775808 ≤ (q : Int) := by omega
        have q4 : (0 : Int) ≤ (q : Int) := by omega
        have q5 : (q : Int) < (m : Int) := by omega
        have q6 : IntKind.i64.wrap (q : Int) = (q : Int) := i64w _ (by omega) (by omega)
        have q7 : IntKind.i64.wrap ((p : Int).tdiv 8) = (q : Int) := by rw [t1]; exact q6
        have M7 := Lib.hid ((M5.out.put 7 (.int .i64 wv)).put 2 (.int .i64 2))
        have hr1 : ¬ R.g = gq := fun e => M5.out.off (Or.inr (Or.inr (Or.inl e.symm)))
        have hr2 : ¬ R.gw = gq := fun e => M5.out.off (Or.inr (Or.inr (Or.inr (Or.inr (Or.inr (Or.inl e.symm))))))
        have m8 := (M5.out.put 7 (.int .i64 wv)).ext ((Ext.refl (w5.setCell ⟨gq, 7, none⟩ (.int .i64 wv))).drew)
        have hs8 : ((w5.setCell ⟨gq, 7, none⟩ (.int .i64 wv)).drew).cell? ⟨gq, 1, none⟩ = some (.int .i64 (p : Int)) ∧ ((w5.setCell ⟨gq, 7, none⟩ (.int .i64 wv)).drew).cell? ⟨g, 0, none⟩ = some (.pointer (some ⟨R.g, 0, none⟩)) ∧ ((w5.setCell ⟨gq, 7, none⟩ (.int .i64 wv)).drew).cell? ⟨R.g, 2, none⟩ = some (.slice (some ⟨R.gw, 0, none⟩) m m) ∧ ((w5.setCell ⟨gq, 7, none⟩ (.int .i64 wv)).drew).cell? ⟨R.gw, q, none⟩ = some (.int .i64 wv) := by
          refine ⟨m8.blk.cell 1, m8.ref.blk.cell 0, ?_, ?_⟩
          · rw [← hm]; exact m8.ref.dev.is.blk.cell 2
          · have hh := m8.ref.dev.is
            have h2 := RowN.of_row hh.writes
            rw [hh.wlen, hm] at h2
            have h3 := h2.cell (j := q) (by omega)
            rw [hwv] at h3
            exact h3
        clear m8
        generalize R.g = rg at cg cr hr1 hs8
        generalize R.gw = rgw at cr cw hr2 hs8
        clear hm hq hin HWV HIn hwv
        go_wp2_with fail
        go_region_held3 (fun W => W.cell? ⟨gq, 1, none⟩ = some (.int .i64 (p : Int)) ∧ W.cell? ⟨g, 0, none⟩ = some (.pointer (some ⟨rg, 0, none⟩)) ∧ W.cell? ⟨rg, 2, none⟩ = some (.slice (some ⟨rgw, 0, none⟩) m m) ∧ W.cell? ⟨rgw, q, none⟩ = some (.int .i64 wv)) (first | exact ⟨c1, cg, cr, cw⟩ | exact hs8 | go_keep) (fail)
        all_goals
        go_wp2_with fail
        (first | (refine bodyPost_ret (results_none rfl _ _ _) rfl ?_) | (refine bodyPost_end (results_none rfl _ _ _) rfl ?_))
        rw [← HR3.out]
        first | exact ⟨⟨_, rfl⟩, M7.out⟩ | exact ⟨⟨_, rfl⟩, M7.out.ext ((Ext.refl _).drew)⟩
      · have p1 : decide (0 ≤ a) = false := by simp; omega
        have HR3 : Hid ((⟨2, true, ck, wr⟩ : RLs) = rr) := Lib.hid (by rw [← HR2.out, if_neg h0])
        have M7 := Lib.hid (M5.out.put 2 (.int .i64 2))
        clear HIn
        go_wp2_with fail
        (first | (refine bodyPost_ret (results_none rfl _ _ _) rfl ?_) | (refine bodyPost_end (results_none rfl _ _ _) rfl ?_))
        rw [← HR3.out]
        first | exact ⟨⟨_, rfl⟩, M7.out⟩ | exact ⟨⟨_, rfl⟩, M7.out.ext ((Ext.refl _).drew)⟩
theorem rlsStep_ok {r : RLs} (h : IsRMem B w g R rv st) (sd : Sound st.dev) (hc : Calm st) {i : Nat} (hi : i ≤ 1000) (fine : Fine i st.dev) (ha : I64 a) (hb : Blk w gq 128 (r.cells t a old nw)) (ho : ¬ rfoot g R rv gq) (hl : r.line = 0 ∨ r.line = 1 ∨ r.line = 2 ∨ r.line = 3 ∨ r.line = 4) (hw : W64 nw) :
    Calls Tryz.prog 79 #[.pointer (some ⟨gq, 0, none⟩), .pointer (some ⟨g, 0, none⟩)] w (RPost B w g R rv gq 128 ((rlsS t a old nw r st).1.cells t a old nw) (rlsS t a old nw r st).2) := by
  obtain ⟨line, put, wh, wr⟩ := r
  simp only at hl
  rcases hl with rfl | rfl | rfl | rfl | rfl
  · have M0 := Lib.hid (RG.of h hb ho)
    have c2 : w.cell? ⟨gq, 2, none⟩ = some (.int .i64 0) := hb.cell 2
    clear h hb sd hc fine
    go_enter Tryz.func79, Tryz.ntmps79
    go_wp2_with fail
    (first | (refine bodyPost_ret (results_none rfl _ _ _) rfl ?_) | (refine bodyPost_end (results_none rfl _ _ _) rfl ?_))
    exact ⟨⟨_, rfl⟩, M0.out⟩
  · exact rls_1 h sd hc hw ha hb ho
  · exact rls_2 h sd hc hi fine ha hb ho
  · exact rls_3 h sd hc hi fine ha hb ho
  · exact rls_4 h sd hc hw ha hb ho
end
theorem rnewRead_ok (w : World) (t a : Int) : Calls Tryz.prog 70 #[.int .i64 t, .int .i64 a] w fun e w' => ∃ g, e = .returned (.pointer (some ⟨g, 0, none⟩)) ∧ w.heap.size ≤ g ∧ Blk w' g 119 (RLr.cells ⟨1, 0, 0, -1⟩ t a) ∧ Ext w w' := by
  go_enter Tryz.func70, Tryz.ntmps70
  go_wp2_with fail
  go_ret
  exact ⟨w.heap.size, rfl, Nat.le_refl _, Blk.new w _ _, (Ext.refl w).alloc _⟩
theorem rnewSet_ok (w : World) (t a old wd : Int) (ho : W64 old) (hw : W64 wd) : Calls Tryz.prog 77 #[.int .i64 t, .int .i64 a, .int .u64 old, .int .u64 wd] w fun e w' => ∃ g, e = .returned (.pointer (some ⟨g, 0, none⟩)) ∧ w.heap.size ≤ g ∧ Blk w' g 128 (RLs.cells ⟨1, false, -1, 0⟩ t a (clN old) (clN wd)) ∧ Ext w w' := by
  have HS : Hid (∀ W, Calls Tryz.prog 85 #[.int .u64 wd] W fun e w' => e = .returned (.int .u64 (clN wd)) ∧ Ext W w') := Lib.hid (fun W => rclean_any wd hw.1 hw.2 W)
  have HC : Hid (∀ W, Calls Tryz.prog 85 #[.int .u64 old] W fun e w' => e = .returned (.int .u64 (clN old)) ∧ Ext W w') := Lib.hid (fun W => rclean_any old ho.1 ho.2 W)
  clear ho hw
  generalize clN wd = z at *
  generalize clN old = y at *
  go_enter Tryz.func77, Tryz.ntmps77
  go_wp2_with fail
  refine (HC.out _).mono ?_
  rintro e w1 ⟨rfl, x1⟩
  go_wp2_with fail
  refine (HS.out _).mono ?_
  rintro e w2 ⟨rfl, x2⟩
  have X2 := Lib.hid (x1.trans x2)
  clear x1 x2
  go_wp2_with fail
  go_ret
  exact ⟨w2.heap.size, rfl, X2.out.size, Blk.new w2 _ _, X2.out.alloc _⟩
end Go.Proofs.YtndplpfbohigpaaGreat

/- The page's example of layer 13. Conditions: none. -/
namespace Go.Proofs.YtndplpfbohigpaaGreat
open Go.ChangeShapes Go.WideShapes Go.ChangeAt Go.RowKit
set_option linter.unusedVariables false
theorem gr13 : GrOk ((1 : Nat) : Int) ((1 : Nat) : Int) ((1 : Nat) : Int) ((1 : Nat) : Int) := ⟨⟨by decide, by decide, by decide, by decide⟩, by decide, by decide, by decide, by decide⟩
def s13 : MSt := groundSt 1 1 1 1 []
def a13 (k : Nat) : LsM × MSt := stepsL (lsS 0 16 (soN 5) (clN 0)) (⟨0, 0, false, false, 0⟩, s13) k
def b13 : LrM × MSt := lrS 0 16 ⟨0, 0, 0, false⟩ (a13 4).2
theorem a13_all : ∀ k : Nat, ((a13 k).1.part = 0 ∨ (a13 k).1.part = 1 ∨ (a13 k).1.part = 2 ∨ (a13 k).1.part = 3) ∧ (k ≤ 80 → Fine k (a13 k).2.dev) ∧ CalmN (100 + (k : Int)) (a13 k).2
  | 0 => ⟨Or.inl rfl, fun _ => ground_fine 1 1 1 1 [], show CalmN (100 + ((0 : Nat) : Int)) s13 from CalmN.mono (ground_calm 1 1 1 1 [] (by decide)) (by omega)⟩
  | k + 1 => by
    obtain ⟨h1, h2, h3⟩ := a13_all k
    refine ⟨lsS_part h1, fun hk => lsS_fine (h2 (by omega)) (by omega), ?_⟩
    have := lsS_calm (t := 0) (a := 16) (wd := soN 5) (old := clN 0) (x := (a13 k).1) h3
    rw [show (100 : Int) + ((k + 1 : Nat) : Int) = 100 + (k : Int) + 1 by omega]
    exact this
theorem a13_end : (a13 1).1.dn = false ∧ peekV (a13 1).2 16 = 9223372036854775813 ∧ (a13 4).1.dn = true ∧ (a13 4).1.put = true ∧ peekV (a13 4).2 16 = 5 := by decide +kernel
theorem b13_end : b13.1.dn = true ∧ b13.1.wd = 5 := by decide +kernel
set_option maxRecDepth 100000 in
set_option maxHeartbeats 4000000 in
theorem awake13_ok (w : World) : Calls Tryz.prog 68 #[] w fun e w' => e = .returned (.bool true) ∧ Ext w w' := by
  have HLa : Hid (∀ W, Calls Tryz.prog 18 #[.agg #[.int .i64 1, .int .i64 1, .int .i64 1, .int .i64 1, .slice none 0 0]] W (GrNew W 1 1 1 1 [])) := Lib.hid (fun W => lay_ok W none 0 0 1 1 1 1 [] gr13 rfl (by decide) (fun h => absurd h (by decide)))
  have hI16 : I64 16 := ⟨by decide, by decide⟩
  have hW5 : W64 (soN 5) := soN_rng 5
  go_enter Tryz.func68, Tryz.ntmps68
  go_wp2_with fail
  refine (HLa.out _).mono ?_
  rintro e w2 ⟨gl, gm, dv, pv, g, R, rv, rfl, bl, gr⟩
  have GR := Lib.hid gr
  clear bl gr HLa
  go_wp2_with fail
  refine (newSet_ok w2 0 16 0 5 ⟨by decide, by decide⟩ ⟨by decide, by decide⟩).mono ?_
  rintro e w3 ⟨gp, rfl, lp, bp, x3⟩
  have M3 : Hid (IsMem (fun q => q = gp) w3 w w3 gm dv pv (a13 0).2) := Lib.hid (GR.out.mem.hold x3 (fun b hb => by
    rw [hb]; exact ⟨bp.lt, Or.inr lp⟩))
  have B3 : Hid (Blk w3 gp 242 ((a13 0).1.cells 0 16 (soN 5) (clN 0))) := Lib.hid bp
  have hw1 : w.heap.size ≤ gp := Nat.le_trans GR.out.mem.lt.1.size lp
  clear bp x3 lp GR
  have HS0 := lsStep_ok (i := 0) M3.out ((a13_all 0).2.2.calm (by decide)) (by decide) ((a13_all 0).2.1 (by decide)) hI16 (a13_all 0).1 hW5 B3.out rfl hw1
  have e1 : lsS 0 16 (soN 5) (clN 0) (a13 0).1 (a13 0).2 = a13 1 := rfl
  rw [e1, a13_end.1] at HS0
  have HS := Lib.hid HS0
  clear HS0 e1 B3
  go_wp2_with fail
  refine HS.out.mono ?_
  rintro e w4 ⟨rfl, m4, b4, k4⟩
  have HP0 := m4.peek 16 (by decide) (by decide)
  rw [a13_end.2.1] at HP0
  have HP := Lib.hid HP0
  have M4 := Lib.hid m4
  have B4 := Lib.hid b4
  generalize peekB (a13 1).2 16 = pb at *
  clear m4 b4 k4 HS M3 HP0
  go_wp2_with fail
  refine HP.out.mono ?_
  rintro e w' ⟨rfl, rfl⟩
  clear HP
  go_wp2_with fail
  go_loopw [9] (fun i wr => ∃ k : Nat, k ≤ 3 ∧ i = .int .i64 k ∧ IsMem (fun q => q = gp) wr w wr gm dv pv (a13 (1 + k)).2 ∧ Blk wr gp 242 ((a13 (1 + k)).1.cells 0 16 (soN 5) (clN 0))) (fun i _ => 3 - (intOf i).toNat)
  case atStart => exact ⟨0, by omega, rfl, M4.out, B4.out⟩
  case round =>
    obtain ⟨k, hk, rfl, mk, bk⟩ := hrel
    have MK := Lib.hid mk
    have BK := Lib.hid bk
    clear mk bk M4 B4
    by_cases hlt : k < 3
    · have v1 : decide (k < 3) = true := by simp; omega
      have v2 : decide ((k : Int) < 3) = true := by simp; omega
      have HSt := Lib.hid (lsStep_ok (i := 1 + k) MK.out ((a13_all (1 + k)).2.2.calm (by omega)) (by omega) ((a13_all (1 + k)).2.1 (by omega)) hI16 (a13_all (1 + k)).1 hW5 BK.out rfl hw1)
      have e1 : lsS 0 16 (soN 5) (clN 0) (a13 (1 + k)).1 (a13 (1 + k)).2 = a13 (1 + (k + 1)) := rfl
      rw [e1] at HSt
      clear e1
      go_wp2_with fail
      refine HSt.out.mono ?_
      rintro e w5 ⟨rfl, m5, b5, k5⟩
      have M5 := Lib.hid m5
      have B5 := Lib.hid b5
      clear m5 b5 k5 HSt
      go_wp2_with fail
      go_roundw
      case rel => exact ⟨k + 1, by omega, by go_num, M5.out, B5.out⟩
      case measure => simp [intOf]; omega
    · have v1 : decide (k < 3) = false := by simp; omega
      have v2 : decide ((k : Int) < 3) = false := by simp; omega
      obtain rfl : k = 3 := by omega
      have HP0 := MK.out.peek 16 (by decide) (by decide)
      rw [show 1 + 3 = 4 from rfl, a13_end.2.2.2.2] at HP0
      have HP := Lib.hid HP0
      have M6 : Hid (IsMem (fun q => q = gp) wr w wr gm dv pv (a13 4).2) := Lib.hid MK.out
      have B6 : Hid (Blk wr gp 242 ((a13 4).1.cells 0 16 (soN 5) (clN 0))) := Lib.hid BK.out
      generalize peekB (a13 4).2 16 = pc at *
      clear HP0 MK BK
      go_wp2_with fail
      refine HP.out.mono ?_
      rintro e w' ⟨rfl, rfl⟩
      clear HP
      go_wp2_with fail
      refine (newRead_ok wr 0 16).mono ?_
      rintro e w7 ⟨gq, rfl, lq, bq, x7⟩
      have M7 : Hid (IsMem (fun q => q = gp ∨ q = gq) w7 w w7 gm dv pv (a13 4).2) := Lib.hid (M6.out.hold x7 (fun b hb => by
        rcases hb with e | e
        · rw [e]; exact ⟨(B6.out.ext x7).lt, Or.inl rfl⟩
        · rw [e]; exact ⟨bq.lt, Or.inr lq⟩))
      have npq : gp ≠ gq := by have := B6.out.lt; omega
      have B7 := Lib.hid (B6.out.ext x7)
      have HSt0 := lrStep_ok (x := ⟨0, 0, 0, false⟩) (i := 4) M7.out ((a13_all 4).2.2.calm (by decide)) (by decide) ((a13_all 4).2.1 (by decide)) hI16 ⟨Or.inl rfl, ⟨by decide, by decide⟩⟩ bq (Or.inr rfl) (Nat.le_trans M6.out.lt.1.size lq)
      have e1 : lrS 0 16 ⟨0, 0, 0, false⟩ (a13 4).2 = b13 := rfl
      rw [e1, b13_end.1] at HSt0
      have HSt := Lib.hid HSt0
      clear HSt0 e1 lq bq x7 M6 B6
      go_wp2_with fail
      refine HSt.out.mono ?_
      rintro e w8 ⟨rfl, m8, b8, k8⟩
      have B8 : Hid (Blk w8 gp 242 ((a13 4).1.cells 0 16 (soN 5) (clN 0))) := Lib.hid ((k8 gp (Or.inl rfl) npq).trans B7.out)
      have p5 : w8.cell? ⟨gp, 5, none⟩ = some (.bool true) := by rw [← a13_end.2.2.1]; exact B8.out.cell 5
      have p7 : w8.cell? ⟨gp, 7, none⟩ = some (.bool true) := by rw [← a13_end.2.2.2.1]; exact B8.out.cell 7
      have q5 : w8.cell? ⟨gq, 5, none⟩ = some (.bool true) := by rw [← b13_end.1]; exact b8.cell 5
      have q3 : w8.cell? ⟨gq, 3, none⟩ = some (.int .u64 5) := by rw [← b13_end.2]; exact b8.cell 3
      have X8 := Lib.hid m8.lt.1
      have H1 := Lib.hid (lsDone_ok w8 gp true p5)
      have H2 := Lib.hid (lsPut_ok w8 gp true p7)
      have H3 := Lib.hid (lrDone_ok w8 gq true q5)
      have h4 := lrWord_ok w8 gq 5 true q3 q5
      rw [if_pos rfl] at h4
      have H4 := Lib.hid h4
      clear m8 b8 k8 HSt B7 B8 p5 p7 q5 q3 h4 M7
      go_wp2_with fail
      refine H1.out.mono ?_
      rintro e w' ⟨rfl, rfl⟩
      go_wp2_with fail
      refine H2.out.mono ?_
      rintro e w' ⟨rfl, rfl⟩
      go_wp2_with fail
      refine H3.out.mono ?_
      rintro e w' ⟨rfl, rfl⟩
      go_wp2_with fail
      refine H4.out.mono ?_
      rintro e w' ⟨rfl, rfl⟩
      go_wp2_with fail
      go_ret
      exact ⟨rfl, X8.out⟩
end Go.Proofs.YtndplpfbohigpaaGreat
