/- The four machines of package retire as one, beside the document's: what a step leaves of both. Conditions: those that each theorem names. -/
import Derived.Test.YtbicloceaddinaaGreatKR11
import Derived.Test.YtbicloceaddinaaGreatKRetE
import Derived.Test.YtbicloceaddinaaGreatKRetC
import Derived.Test.YtbicloceaddinaaGreatKRetA
import Derived.Deep.MidRow
import Derived.Laws.ResultCell
namespace Go.Proofs.YtbicloceaddinaaGreat
open Go.ChangeShapes Go.WideShapes Go.ChangeAt Go.RowKit
set_option linter.unusedVariables false
inductive M11 where
  | rv (g : Nat) (x : RvM)
  | cn (g : Nat) (d : Bool)
  | st (g : Nat) (x : StM)
  | rc (g : Nat) (x : RcM)
def M11.g : M11 → Nat
  | .rv g _ => g | .cn g _ => g | .st g _ => g | .rc g _ => g
def M11.dn : M11 → Bool
  | .rv _ x => x.dn | .cn _ d => d | .st _ x => x.dn | .rc _ x => x.dn
def M11.p0 : M11 → Option Addr
  | .rv g _ => some ⟨g, 0, none⟩ | _ => none
def M11.p1 : M11 → Option Addr
  | .cn g _ => some ⟨g, 0, none⟩ | _ => none
def M11.p2 : M11 → Option Addr
  | .st g _ => some ⟨g, 0, none⟩ | _ => none
def M11.p3 : M11 → Option Addr
  | .rc g _ => some ⟨g, 0, none⟩ | _ => none
def M11.ty : M11 → TypeId
  | .rv _ _ => 195 | .cn _ _ => 201 | .st _ _ => 203 | .rc _ _ => 206
def M11.cells (gl : Nat) (t place slot : Int) : M11 → List Value
  | .rv _ x => x.cells gl t slot | .cn _ d => cnCells gl t place d | .st _ x => x.cells gl t place slot | .rc _ x => x.cells gl t
def M11.push : M11 → Option (Nat × PMs)
  | .rc _ x => x.push | _ => none
def M11.ownB (m : M11) (b : Nat) : Prop := ∃ q, m.push = some q ∧ b = q.1
/-- What a step leaves; gn: the block of the Push that it makes, if it makes one. -/
def M11.S (F : Nat → Int) (t place slot : Int) (m : M11) (s : MSt) (gn : Nat) : M11 × MSt :=
  match m with
  | .rv g x => (.rv g (rvS F t slot x s).1, (rvS F t slot x s).2)
  | .cn g d => (.cn g true, cnS F t place d s)
  | .st g x => (.st g (stS F t place slot x s).1, (stS F t place slot x s).2)
  | .rc g x => (.rc g (rcS F t x s gn).1, (rcS F t x s gn).2)
structure M11.Wf (L : Int) (m : M11) : Prop where
  rv : ∀ g x, m = .rv g x → x.Wf L
  st : ∀ g x, m = .st g x → x.Wf
  rc : ∀ g x, m = .rc g x → x.Wf1 L
def newM11 (kd : Int) (g : Nat) : M11 := if kd = 0 then .rv g ⟨0, 0, false⟩ else if kd = 1 then .cn g false else if kd = 2 then .st g ⟨0, 0, false⟩ else .rc g ⟨false, 0, 0, 0, 0, none, 0⟩
/-- The machine beside the document's. -/
def Rel11 (L place slot : Int) : M11 → R11 → Prop
  | .rv _ x, r => x.Wf L ∧ r.kind = 0 ∧ r.n = x.place ∧ r.slot = slot ∧ (r.line = if x.dn = true then 0 else x.part + 1) ∧ r.place = x.tells L ∧ r.holds = -1 ∧ r.count = 0
  | .cn _ d, r => r.kind = 1 ∧ r.n = place ∧ (r.line = if d = true then 0 else 1) ∧ r.holds = -1 ∧ r.count = 0
  | .st _ x, r => x.Wf ∧ r.kind = 2 ∧ r.n = place ∧ r.slot = slot ∧ r.now = x.ep ∧ (r.line = if x.dn = true then 0 else x.part + 1) ∧ r.holds = -1 ∧ r.count = 0
  | .rc _ x, r => x.Wf1 L ∧ r.kind = 3 ∧ r.n = x.place ∧ r.now = x.ep ∧ (r.line = if x.dn = true then 0 else x.part + 1) ∧ r.holds = x.tells ∧ r.count = x.count ∧ (x.dn = false → x.part = 2 ∨ x.part = 3 → r.slot = x.slot) ∧ ∀ q, x.push = some q → ∃ p, r.push = some p ∧ RelU q.2 p
theorem Rel11.lineB {L place slot : Int} {m : M11} {r : R11} (h : Rel11 L place slot m r) : (r.line == 0) = m.dn := by
  have key : ∀ (d : Bool) (p : Int), ((p = 0 ∨ p = 1 ∨ p = 2 ∨ p = 3) ∨ d = true) → ((if d = true then (0 : Int) else p + 1) == 0) = d := by
    intro d p hp
    cases d
    · rw [if_neg (by decide), beq_eq_false_iff_ne]
      rcases hp with hp | hp
      · omega
      · cases hp
    · rfl
  cases m with
  | rv g x =>
    rw [h.2.2.2.2.1]
    exact key x.dn x.part h.1.part
  | cn g d => rw [h.2.2.1]; cases d <;> rfl
  | st g x =>
    rw [h.2.2.2.2.2.1]
    exact key x.dn x.part h.1.part
  | rc g x =>
    rw [h.2.2.2.2.1]
    exact key x.dn x.part h.1.wf.part
def M11.tellsH : M11 → Int
  | .rc _ x => x.tells | _ => -1
theorem Rel11.holdsE {L place slot : Int} {m : M11} {r : R11} (h : Rel11 L place slot m r) : r.holds = m.tellsH := by
  cases m with
  | rv g x => exact h.2.2.2.2.2.2.1
  | cn g d => exact h.2.2.2.1
  | st g x => exact h.2.2.2.2.2.2.1
  | rc g x => exact h.2.2.2.2.2.1
theorem stS_wfP {F : Nat → Int} {t place slot : Int} {x : StM} {s : MSt} (h : x.Wf) (hU : ∀ a, W64 (peekV s a)) : (stS F t place slot x s).1.Wf := by
  obtain ⟨part, ep, dn⟩ := x
  obtain ⟨hp, he⟩ := h
  simp only at hp he
  cases dn
  · rcases hp with (rfl | rfl | rfl | rfl) | hd
    · have e : stS F t place slot ⟨0, ep, false⟩ s = (⟨1, peekV s (-1), false⟩, s.load t (-1)) := rfl
      rw [e]
      exact ⟨Or.inl (Or.inr (Or.inl rfl)), hU (-1)⟩
    · exact ⟨Or.inl (Or.inr (Or.inr (Or.inl rfl))), he⟩
    · exact ⟨Or.inl (Or.inr (Or.inr (Or.inr rfl))), he⟩
    · exact ⟨Or.inr rfl, he⟩
    · cases hd
  · exact ⟨hp, he⟩
theorem Rel11.step_rv {L : Nat} {F : Nat → Int} {t place slot : Int} {s : MSt} {g : Nat} {x : RvM} {r : R11} (hL : F 2 = (L : Int)) (h : Rel11 (L : Int) place slot (.rv g x) r) : (r11S F t r s).2 = (rvS F t slot x s).2 ∧ Rel11 (L : Int) place slot (.rv g (rvS F t slot x s).1) (r11S F t r s).1 := by
  have hw := rvS_wf (t := t) (slot := slot) (s := s) hL h.1
  obtain ⟨pl, part, dn⟩ := x
  obtain ⟨kind, line, n, sl, plc, now, holds, count, push⟩ := r
  obtain ⟨h1, h2, h3, h4, h5, h6, h7, h8⟩ := h
  simp only at h2 h3 h4 h5 h6 h7 h8
  subst h2 h3 h4 h6 h7 h8
  obtain ⟨hp, ⟨h0, h0L⟩, hlt⟩ := h1
  simp only at hp h0 h0L hlt
  cases dn
  · have hl0 := hlt rfl
    rcases hp with (rfl | rfl | rfl | rfl) | hd
    · have hl : line = 1 := h5
      subst hl
      have e1 : rvS F t sl ⟨n, 0, false⟩ s = (if peekV s (logN F t n) = 0 then ⟨n, 1, false⟩ else ⟨n + 1, 0, decide (F 2 ≤ n + 1)⟩, s.load t (logN F t n)) := rfl
      have e2 : r11S F t ⟨0, 1, n, sl, RvM.tells (L : Int) ⟨n, 0, false⟩, now, -1, 0, push⟩ s = (if peekV s (logN F t n) = 0 then R11.at ⟨0, 1, n, sl, RvM.tells (L : Int) ⟨n, 0, false⟩, now, -1, 0, push⟩ 2 else R11.on F ⟨0, 1, n, sl, RvM.tells (L : Int) ⟨n, 0, false⟩, now, -1, 0, push⟩, s.load t (logN F t n)) := rfl
      rw [e1] at hw ⊢
      rw [e2]
      refine ⟨rfl, ?_⟩
      simp only at hw ⊢
      by_cases hv : peekV s (logN F t n) = 0
      · rw [if_pos hv] at hw ⊢
        rw [if_pos hv]
        exact ⟨hw, rfl, rfl, rfl, rfl, rfl, rfl, rfl⟩
      · rw [if_neg hv] at hw ⊢
        rw [if_neg hv]
        refine ⟨hw, rfl, rfl, rfl, ?_, ?_, rfl, rfl⟩
        · show (if n + 1 = F 2 then (0 : Int) else 1) = if decide (F 2 ≤ n + 1) = true then 0 else 0 + 1
          rw [hL]
          by_cases he : n + 1 = (L : Int)
          · rw [if_pos he, if_pos (by simp; omega)]
          · rw [if_neg he, if_neg (by simp; omega)]
            rfl
        · show RvM.tells (L : Int) ⟨n, 0, false⟩ = if decide (F 2 ≤ n + 1) = true ∧ n + 1 < (L : Int) then n + 1 else -1
          rw [if_neg (by rw [hL]; simp)]
          rfl
    · have hl : line = 2 := h5
      subst hl
      exact ⟨rfl, hw, rfl, rfl, rfl, rfl, rfl, rfl, rfl⟩
    · have hl : line = 3 := h5
      subst hl
      exact ⟨rfl, hw, rfl, rfl, rfl, rfl, rfl, rfl, rfl⟩
    · have hl : line = 4 := h5
      subst hl
      refine ⟨rfl, hw, rfl, rfl, rfl, rfl, ?_, rfl, rfl⟩
      show n = if true = true ∧ n < (L : Int) then n else -1
      rw [if_pos ⟨rfl, hl0⟩]
    · cases hd
  · have hl : line = 0 := h5
    subst hl
    exact ⟨rfl, hw, rfl, rfl, rfl, rfl, rfl, rfl, rfl⟩
theorem Rel11.step_st {L : Int} {F : Nat → Int} {t place slot : Int} {s : MSt} {g : Nat} {x : StM} {r : R11} (hU : ∀ a, W64 (peekV s a)) (h : Rel11 L place slot (.st g x) r) : (r11S F t r s).2 = (stS F t place slot x s).2 ∧ Rel11 L place slot (.st g (stS F t place slot x s).1) (r11S F t r s).1 := by
  have hw := stS_wfP (F := F) (t := t) (place := place) (slot := slot) h.1 hU
  obtain ⟨part, ep, dn⟩ := x
  obtain ⟨kind, line, n, sl, plc, now, holds, count, push⟩ := r
  obtain ⟨h1, h2, h3, h4, h6, h5, h7, h8⟩ := h
  simp only at h2 h3 h4 h5 h6 h7 h8
  subst h2 h3 h4 h6 h7 h8
  obtain ⟨hp, he⟩ := h1
  simp only at hp he
  cases dn
  · rcases hp with (rfl | rfl | rfl | rfl) | hd
    · have hl : line = 1 := h5
      subst hl
      exact ⟨rfl, hw, rfl, rfl, rfl, rfl, rfl, rfl, rfl⟩
    · have hl : line = 2 := h5
      subst hl
      exact ⟨rfl, hw, rfl, rfl, rfl, rfl, rfl, rfl, rfl⟩
    · have hl : line = 3 := h5
      subst hl
      exact ⟨rfl, hw, rfl, rfl, rfl, rfl, rfl, rfl, rfl⟩
    · have hl : line = 4 := h5
      subst hl
      exact ⟨rfl, hw, rfl, rfl, rfl, rfl, rfl, rfl, rfl⟩
    · cases hd
  · have hl : line = 0 := h5
    subst hl
    exact ⟨rfl, hw, rfl, rfl, rfl, rfl, rfl, rfl, rfl⟩
theorem Rel11.step_cn {L : Int} {F : Nat → Int} {t place slot : Int} {s : MSt} {g : Nat} {d : Bool} {r : R11} (h : Rel11 L place slot (.cn g d) r) : (r11S F t r s).2 = cnS F t place d s ∧ Rel11 L place slot (.cn g true) (r11S F t r s).1 := by
  obtain ⟨kind, line, n, sl, plc, now, holds, count, push⟩ := r
  obtain ⟨h2, h3, h5, h7, h8⟩ := h
  simp only at h2 h3 h5 h7 h8
  subst h2 h3 h7 h8
  cases d
  · have hl : line = 1 := h5
    subst hl
    exact ⟨rfl, rfl, rfl, rfl, rfl, rfl⟩
  · have hl : line = 0 := h5
    subst hl
    exact ⟨rfl, rfl, rfl, rfl, rfl, rfl⟩
theorem Rel11.step_rc {L : Nat} {F : Nat → Int} {t place slot n : Int} {s : MSt} {g gn : Nat} {x : RcM} {r : R11} (hL : F 2 = (L : Int)) (h0L : 0 < L) (hU : ∀ a, W64 (peekV s a)) (hc : CalmN n s) (h : Rel11 (L : Int) place slot (.rc g x) r) : (r11S F t r s).2 = (rcS F t x s gn).2 ∧ Rel11 (L : Int) place slot (.rc g (rcS F t x s gn).1) (r11S F t r s).1 := by
  have hw := (rcS_wf (g := gn) (t := t) hL h0L hU h.1 hc).1
  obtain ⟨dn, part, ep, pl, sl, push, ct⟩ := x
  obtain ⟨kind, line, m, rsl, plc, now, holds, count, rpush⟩ := r
  obtain ⟨h1, h2, h3, h4, h5, h6, h7, h8, h9⟩ := h
  simp only at h2 h3 h4 h5 h6 h7 h8 h9
  subst h2 h3 h4 h6 h7
  obtain ⟨⟨hpa, hep, hpl, hlt, hsl, hno, hpu, hnd, hct⟩, hp0⟩ := h1
  simp only at hpa hep hpl hlt hsl hno hpu hnd hct hp0
  cases dn
  · have hl0 := hlt rfl
    rcases hpa with (rfl | rfl | rfl | rfl) | hd
    · have hl : line = 1 := h5
      subst hl
      have e0 := hp0 rfl rfl
      have en := hno rfl (by decide)
      subst e0 en
      refine ⟨rfl, hw, rfl, rfl, rfl, ?_, rfl, rfl, fun _ hh => ?_, fun q e => by cases e⟩
      · show (2 : Int) = if decide (F 2 ≤ 0) = true then 0 else 1 + 1
        rw [hL, if_neg (by simp; omega)]
        rfl
      · rcases hh with hh | hh
        · exact absurd (show (1 : Int) = 2 from hh) (by decide)
        · exact absurd (show (1 : Int) = 3 from hh) (by decide)
    · have hl : line = 2 := h5
      subst hl
      have en := hno rfl (by decide)
      subst en
      have e1 : rcS F t ⟨false, 1, now, m, sl, none, count⟩ s gn = (if overB now (peekV s (logN F t m)) = true then ⟨false, 2, now, m, toN (peekV s (logN F t m)), none, count⟩ else RcM.goOn F ⟨false, 1, now, m, sl, none, count⟩ (m + 1), s.load t (logN F t m)) := rfl
      have e2 : r11S F t ⟨3, 2, m, rsl, plc, now, RcM.tells ⟨false, 1, now, m, sl, none, count⟩, count, rpush⟩ s = (if overB now (peekV s (logN F t m)) = true then ⟨3, 3, m, toN (peekV s (logN F t m)), plc, now, RcM.tells ⟨false, 1, now, m, sl, none, count⟩, count, rpush⟩ else R11.on F ⟨3, 2, m, rsl, plc, now, RcM.tells ⟨false, 1, now, m, sl, none, count⟩, count, rpush⟩, s.load t (logN F t m)) := rfl
      rw [e1] at hw ⊢
      rw [e2]
      refine ⟨rfl, ?_⟩
      simp only at hw ⊢
      by_cases hv : overB now (peekV s (logN F t m)) = true
      · rw [if_pos hv] at hw ⊢
        rw [if_pos hv]
        exact ⟨hw, rfl, rfl, rfl, rfl, rfl, rfl, fun _ _ => rfl, fun q e => by cases e⟩
      · rw [if_neg hv] at hw ⊢
        rw [if_neg hv]
        refine ⟨hw, rfl, rfl, rfl, ?_, rfl, rfl, fun _ hh => ?_, fun q e => by cases e⟩
        · show (if m + 1 = F 2 then (0 : Int) else 2) = if decide (F 2 ≤ m + 1) = true then 0 else 1 + 1
          rw [hL]
          by_cases he : m + 1 = (L : Int)
          · rw [if_pos he, if_pos (by simp; omega)]
          · rw [if_neg he, if_neg (by simp; omega)]
            rfl
        · rcases hh with hh | hh
          · exact absurd (show (1 : Int) = 2 from hh) (by decide)
          · exact absurd (show (1 : Int) = 3 from hh) (by decide)
    · have hl : line = 3 := h5
      subst hl
      have en := hno rfl (by decide)
      subst en
      have es : rsl = sl := h8 rfl (Or.inl rfl)
      subst es
      exact ⟨rfl, hw, rfl, rfl, rfl, rfl, rfl, rfl, fun _ _ => rfl, fun q e => by injection e with e; subst e; exact ⟨_, rfl, RelU.zero hsl⟩⟩
    · have hl : line = 4 := h5
      subst hl
      obtain ⟨gq, y, rfl, hy, hyd, hyy⟩ := hpu rfl rfl
      obtain ⟨p, rfl, hrel⟩ := h9 (gq, y) rfl
      obtain ⟨u1, u2⟩ := hrel.step (F := F) (t := t) (s := s) hU
      have es : rsl = sl := h8 rfl (Or.inr rfl)
      subst es
      have e1 : rcS F t ⟨false, 3, now, m, rsl, some (gq, y), count⟩ s gn = (if (pushS F t y s).1.dn = true then RcM.goOn F ⟨false, 3, now, m, rsl, none, count + 1⟩ (m + 1) else ⟨false, 3, now, m, rsl, some (gq, (pushS F t y s).1), count⟩, (pushS F t y s).2) := rfl
      have e2 : r11S F t ⟨3, 4, m, rsl, plc, now, RcM.tells ⟨false, 3, now, m, rsl, some (gq, y), count⟩, count, some p⟩ s = (if (rpushS F t p s).1.line = 0 then R11.on F ⟨3, 2, m, rsl, plc, now, -1, count + 1, some (rpushS F t p s).1⟩ else ⟨3, 4, m, rsl, plc, now, RcM.tells ⟨false, 3, now, m, rsl, some (gq, y), count⟩, count, some (rpushS F t p s).1⟩, (rpushS F t p s).2) := rfl
      rw [e1] at hw ⊢
      rw [e2]
      refine ⟨u1, ?_⟩
      simp only at hw ⊢
      have hb := u2.lineB
      by_cases hv : (pushS F t y s).1.dn = true
      · rw [hv, beq_iff_eq] at hb
        rw [if_pos hv] at hw ⊢
        rw [if_pos hb]
        refine ⟨hw, rfl, rfl, rfl, ?_, rfl, rfl, fun _ hh => ?_, fun q e => by cases e⟩
        · show (if m + 1 = F 2 then (0 : Int) else 2) = if decide (F 2 ≤ m + 1) = true then 0 else 1 + 1
          rw [hL]
          by_cases he : m + 1 = (L : Int)
          · rw [if_pos he, if_pos (by simp; omega)]
          · rw [if_neg he, if_neg (by simp; omega)]
            rfl
        · rcases hh with hh | hh
          · exact absurd (show (1 : Int) = 2 from hh) (by decide)
          · exact absurd (show (1 : Int) = 3 from hh) (by decide)
      · have hb' : ¬ (rpushS F t p s).1.line = 0 := by
          intro e
          rw [e] at hb
          exact hv (by rw [← hb]; rfl)
        rw [if_neg hv] at hw ⊢
        rw [if_neg hb']
        exact ⟨hw, rfl, rfl, rfl, rfl, rfl, rfl, fun _ _ => rfl, fun q e => by injection e with e; subst e; exact ⟨_, rfl, u2⟩⟩
    · cases hd
  · have hl : line = 0 := h5
    subst hl
    have en := hnd rfl
    subst en
    exact ⟨rfl, hw, rfl, rfl, rfl, rfl, rfl, rfl, fun (hd : true = false) => (by cases hd), fun q e => (by cases e)⟩
theorem Rel11.step {L : Nat} {F : Nat → Int} {t place slot n : Int} {s : MSt} {gn : Nat} {m : M11} {r : R11} (hL : F 2 = (L : Int)) (h0L : 0 < L) (hU : ∀ a, W64 (peekV s a)) (hc : CalmN n s) (h : Rel11 (L : Int) place slot m r) : (r11S F t r s).2 = (m.S F t place slot s gn).2 ∧ Rel11 (L : Int) place slot (m.S F t place slot s gn).1 (r11S F t r s).1 := by
  cases m with
  | rv g x => exact h.step_rv hL
  | cn g d => exact h.step_cn
  | st g x => exact h.step_st hU
  | rc g x => exact h.step_rc hL h0L hU hc
end Go.Proofs.YtbicloceaddinaaGreat


/- The four machines of package retire as one: a step, and what it tells. Conditions: those that each theorem names. -/
namespace Go.Proofs.YtbicloceaddinaaGreat
open Go.ChangeShapes Go.WideShapes Go.ChangeAt Go.RowKit
set_option linter.unusedVariables false
end Go.Proofs.YtbicloceaddinaaGreat


/- The four machines of package retire, made; a step of any of them. Conditions: those that each theorem names. -/
namespace Go.Proofs.YtbicloceaddinaaGreat
open Go.ChangeShapes Go.WideShapes Go.ChangeAt Go.RowKit
set_option linter.unusedVariables false
/-- The document's machine, as it is made. -/
def r11new (kd place slot : Int) : R11 := if kd = 0 then ⟨0, 1, 0, slot, -1, 0, -1, 0, none⟩ else if kd = 1 then ⟨1, 1, place, slot, -1, 0, -1, 0, none⟩ else if kd = 2 then ⟨2, 1, place, slot, -1, 0, -1, 0, none⟩ else ⟨3, 1, 0, slot, -1, 0, -1, 0, none⟩
end Go.Proofs.YtbicloceaddinaaGreat


/- The four machines of package retire in a memory: any step, and what they tell beside the document's. Conditions: those that each theorem names. -/
namespace Go.Proofs.YtbicloceaddinaaGreat
open Go.ChangeShapes Go.WideShapes Go.ChangeAt Go.RowKit
set_option linter.unusedVariables false
section
variable {Q : Nat → Prop} {w0 w w' : World} {gm gl : Nat} {dv pv : Value} {s : MSt} {F : Nat → Int} {t place slot : Int} {m : M11}
end
theorem Rel11.new {L : Nat} (h : 0 < L) (kd place slot : Int) (g : Nat) : Rel11 (L : Int) place slot (newM11 kd g) (r11new kd place slot) := by
  unfold newM11 r11new
  by_cases h0 : kd = 0
  · rw [if_pos h0, if_pos h0]
    exact ⟨RvM.wf0 (by omega), rfl, rfl, rfl, rfl, rfl, rfl, rfl⟩
  rw [if_neg h0, if_neg h0]
  by_cases h1 : kd = 1
  · rw [if_pos h1, if_pos h1]
    exact ⟨rfl, rfl, rfl, rfl, rfl⟩
  rw [if_neg h1, if_neg h1]
  by_cases h2 : kd = 2
  · rw [if_pos h2, if_pos h2]
    exact ⟨⟨Or.inl (Or.inl rfl), w64_0⟩, rfl, rfl, rfl, rfl, rfl, rfl, rfl⟩
  · rw [if_neg h2, if_neg h2]
    exact ⟨RcM.wf0 (by omega), rfl, rfl, rfl, rfl, rfl, rfl, fun _ hh => hh.elim (fun (e : (0 : Int) = 2) => absurd e (by decide)) (fun (e : (0 : Int) = 3) => absurd e (by decide)), fun q e => (by cases e)⟩
theorem Rel11.r11wf {L place slot : Int} {m : M11} {r : R11} (hp : I64 slot) (h : Rel11 L place slot m r) (hs : I64 r.slot) (hnw : W64 r.now) : r.Wf L := by
  have key : ∀ (d : Bool) (p : Int), ((p = 0 ∨ p = 1 ∨ p = 2 ∨ p = 3) ∨ d = true) → ((if d = true then (0 : Int) else p + 1) = 0 ∨ (if d = true then (0 : Int) else p + 1) = 1 ∨ (if d = true then (0 : Int) else p + 1) = 2 ∨ (if d = true then (0 : Int) else p + 1) = 3 ∨ (if d = true then (0 : Int) else p + 1) = 4) := by
    intro d p hp
    cases d
    · rw [if_neg (by decide)]
      rcases hp with hp | hp
      · omega
      · cases hp
    · exact Or.inl rfl
  have dnf : ∀ (d : Bool) (p : Int), ¬ (if d = true then (0 : Int) else p + 1) = 0 → d = false := by
    intro d p h
    cases d
    · rfl
    · exact absurd rfl h
  cases m with
  | rv g x =>
    obtain ⟨h1, h2, h3, h4, h5, h6, h7, h8⟩ := h
    refine ⟨Or.inl h2, by rw [h5]; exact key _ _ h1.part, fun e => by rw [h2] at e; exact absurd e (by decide), fun _ hl => ?_, hs, hnw, fun e => by rw [h2] at e; exact absurd e (by decide), fun e => by rw [h2] at e; exact absurd e (by decide)⟩
    rw [h5] at hl
    rw [h3]
    exact ⟨h1.place.1, h1.lt (dnf _ _ hl)⟩
  | cn g d =>
    obtain ⟨h2, h3, h5, h7, h8⟩ := h
    refine ⟨Or.inr (Or.inl h2), by rw [h5]; cases d; exact Or.inr (Or.inl rfl); exact Or.inl rfl, fun _ hl => ?_, fun e => by rw [h2] at e; exact absurd e (by decide), hs, hnw, fun e => by rw [h2] at e; exact absurd e (by decide), fun e => by rw [h2] at e; exact absurd e (by decide)⟩
    rw [h5] at hl ⊢
    cases d
    · rfl
    · exact absurd rfl hl
  | st g x =>
    obtain ⟨h1, h2, h3, h4, h6, h5, h7, h8⟩ := h
    exact ⟨Or.inr (Or.inr (Or.inl h2)), by rw [h5]; exact key _ _ h1.part, fun e => by rw [h2] at e; exact absurd e (by decide), fun e => by rw [h2] at e; exact absurd e (by decide), hs, hnw, fun e => by rw [h2] at e; exact absurd e (by decide), fun e => by rw [h2] at e; exact absurd e (by decide)⟩
  | rc g x =>
    obtain ⟨h1, h2, h3, h4, h5, h6, h7, h8, h9⟩ := h
    refine ⟨Or.inr (Or.inr (Or.inr h2)), by rw [h5]; exact key _ _ h1.wf.part, fun e => by rw [h2] at e; exact absurd e (by decide), fun _ hl => ?_, hs, hnw, fun _ hl => ?_, fun _ hl => ?_⟩
    · rw [h5] at hl
      rw [h3]
      exact ⟨h1.wf.place.1, h1.wf.lt (dnf _ _ hl)⟩
    · rw [h7, h3]
      exact h1.wf.count
    · rw [h5] at hl
      have hd : x.dn = false := dnf x.dn x.part (by rw [hl]; decide)
      rw [hd, if_neg (by decide)] at hl
      obtain ⟨gq, y, e, hy, _⟩ := h1.wf.hpush hd (by omega)
      obtain ⟨p, e2, hrel⟩ := h9 _ e
      exact ⟨p, e2, hrel.rw⟩
theorem r11S_rng {F : Nat → Int} {tn : Int} {x : R11} {s : MSt} (hU : ∀ a, W64 (peekV s a)) (hs : I64 x.slot) (hn : W64 x.now) : I64 (r11S F tn x s).1.slot ∧ W64 (r11S F tn x s).1.now := by
  unfold r11S r11a r11b R11.on R11.at
  repeat' split
  all_goals first
    | exact ⟨hs, hn⟩
    | exact ⟨hs, hU (-1)⟩
    | exact ⟨⟨by have := toN_rng (hU (logN F tn x.n)); show -9223372036854775808 ≤ toN (peekV s (logN F tn x.n)); omega, by have := toN_rng (hU (logN F tn x.n)); show toN (peekV s (logN F tn x.n)) < 9223372036854775808; omega⟩, hn⟩
end Go.Proofs.YtbicloceaddinaaGreat

