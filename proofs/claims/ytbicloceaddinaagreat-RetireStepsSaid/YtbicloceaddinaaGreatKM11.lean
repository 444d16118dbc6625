/- The four machines of package retire as one, beside the document's: what a step leaves of both. Conditions: those that each theorem names. -/
import Derived.Test.YtbicloceaddinaaGreatKR11
import Derived.Test.YtbicloceaddinaaGreatKRetE
import Derived.Test.YtbicloceaddinaaGreatKRetC
import Derived.Test.YtbicloceaddinaaGreatKRetA
import Derived.Deep.MidRow
import Derived.Laws.ResultCell
namespace Go.Proofs.YtbicloceaddinaaGreat
open Go.ChangeShapes Go.WideShapes Go.ChangeAt Go.RowKit
set_option linter.unusedVariables false
inductive M11 where
  | rv (g : Nat) (x : RvM)
  | cn (g : Nat) (d : Bool)
  | st (g : Nat) (x : StM)
  | rc (g : Nat) (x : RcM)
def M11.g : M11 → Nat
  | .rv g _ => g | .cn g _ => g | .st g _ => g | .rc g _ => g
def M11.dn : M11 → Bool
  | .rv _ x => x.dn | .cn _ d => d | .st _ x => x.dn | .rc _ x => x.dn
def M11.p0 : M11 → Option Addr
  | .rv g _ => some ⟨g, 0, none⟩ | _ => none
def M11.p1 : M11 → Option Addr
  | .cn g _ => some ⟨g, 0, none⟩ | _ => none
def M11.p2 : M11 → Option Addr
  | .st g _ => some ⟨g, 0, none⟩ | _ => none
def M11.p3 : M11 → Option Addr
  | .rc g _ => some ⟨g, 0, none⟩ | _ => none
def M11.ty : M11 → TypeId
  | .rv _ _ => 195 | .cn _ _ => 201 | .st _ _ => 203 | .rc _ _ => 206
def M11.cells (gl : Nat) (t place slot : Int) : M11 → List Value
  | .rv _ x => x.cells gl t slot | .cn _ d => cnCells gl t place d | .st _ x => x.cells gl t place slot | .rc _ x => x.cells gl t
def M11.push : M11 → Option (Nat × PMs)
  | .rc _ x => x.push | _ => none
def M11.ownB (m : M11) (b : Nat) : Prop := ∃ q, m.push = some q ∧ b = q.1
/-- What a step leaves; gn: the block of the Push that it makes, if it makes one. -/
def M11.S (F : Nat → Int) (t place slot : Int) (m : M11) (s : MSt) (gn : Nat) : M11 × MSt :=
  match m with
  | .rv g x => (.rv g (rvS F t slot x s).1, (rvS F t slot x s).2)
  | .cn g d => (.cn g true, cnS F t place d s)
  | .st g x => (.st g (stS F t place slot x s).1, (stS F t place slot x s).2)
  | .rc g x => (.rc g (rcS F t x s gn).1, (rcS F t x s gn).2)
theorem M11.S_g (F : Nat → Int) (t place slot : Int) (m : M11) (s : MSt) (gn : Nat) : (m.S F t place slot s gn).1.g = m.g := by cases m <;> rfl
theorem M11.S_ps (F : Nat → Int) (t place slot : Int) (m : M11) (s : MSt) (gn : Nat) : (m.S F t place slot s gn).1.p0 = m.p0 ∧ (m.S F t place slot s gn).1.p1 = m.p1 ∧ (m.S F t place slot s gn).1.p2 = m.p2 ∧ (m.S F t place slot s gn).1.p3 = m.p3 := by cases m <;> exact ⟨rfl, rfl, rfl, rfl⟩
structure M11.Wf (L : Int) (m : M11) : Prop where
  rv : ∀ g x, m = .rv g x → x.Wf L
  st : ∀ g x, m = .st g x → x.Wf
  rc : ∀ g x, m = .rc g x → x.Wf1 L
def newM11 (kd : Int) (g : Nat) : M11 := if kd = 0 then .rv g ⟨0, 0, false⟩ else if kd = 1 then .cn g false else if kd = 2 then .st g ⟨0, 0, false⟩ else .rc g ⟨false, 0, 0, 0, 0, none, 0⟩
/-- The machine beside the document's. -/
def Rel11 (L place slot : Int) : M11 → R11 → Prop
  | .rv _ x, r => x.Wf L ∧ r.kind = 0 ∧ r.n = x.place ∧ r.slot = slot ∧ (r.line = if x.dn = true then 0 else x.part + 1) ∧ r.place = x.tells L ∧ r.holds = -1 ∧ r.count = 0
  | .cn _ d, r => r.kind = 1 ∧ r.n = place ∧ (r.line = if d = true then 0 else 1) ∧ r.holds = -1 ∧ r.count = 0
  | .st _ x, r => x.Wf ∧ r.kind = 2 ∧ r.n = place ∧ r.slot = slot ∧ r.now = x.ep ∧ (r.line = if x.dn = true then 0 else x.part + 1) ∧ r.holds = -1 ∧ r.count = 0
  | .rc _ x, r => x.Wf1 L ∧ r.kind = 3 ∧ r.n = x.place ∧ r.now = x.ep ∧ (r.line = if x.dn = true then 0 else x.part + 1) ∧ r.holds = x.tells ∧ r.count = x.count ∧ (x.dn = false → x.part = 2 ∨ x.part = 3 → r.slot = x.slot) ∧ ∀ q, x.push = some q → ∃ p, r.push = some p ∧ RelU q.2 p
theorem Rel11.lineB {L place slot : Int} {m : M11} {r : R11} (h : Rel11 L place slot m r) : (r.line == 0) = m.dn := by
  have key : ∀ (d : Bool) (p : Int), ((p = 0 ∨ p = 1 ∨ p = 2 ∨ p = 3) ∨ d = true) → ((if d = true then (0 : Int) else p + 1) == 0) = d := by
    intro d p hp
    cases d
    · rw [if_neg (by decide), beq_eq_false_iff_ne]
      rcases hp with hp | hp
      · omega
      · cases hp
    · rfl
  cases m with
  | rv g x =>
    rw [h.2.2.2.2.1]
    exact key x.dn x.part h.1.part
  | cn g d => rw [h.2.2.1]; cases d <;> rfl
  | st g x =>
    rw [h.2.2.2.2.2.1]
    exact key x.dn x.part h.1.part
  | rc g x =>
    rw [h.2.2.2.2.1]
    exact key x.dn x.part h.1.wf.part
def M11.tellsP (L : Int) : M11 → Int
  | .rv _ x => x.tells L | _ => -1
def M11.tellsH : M11 → Int
  | .rc _ x => x.tells | _ => -1
def M11.tellsC : M11 → Int
  | .rc _ x => x.count | _ => 0
theorem Rel11.holdsE {L place slot : Int} {m : M11} {r : R11} (h : Rel11 L place slot m r) : r.holds = m.tellsH := by
  cases m with
  | rv g x => exact h.2.2.2.2.2.2.1
  | cn g d => exact h.2.2.2.1
  | st g x => exact h.2.2.2.2.2.2.1
  | rc g x => exact h.2.2.2.2.2.1
theorem Rel11.countE {L place slot : Int} {m : M11} {r : R11} (h : Rel11 L place slot m r) : r.count = m.tellsC := by
  cases m with
  | rv g x => exact h.2.2.2.2.2.2.2
  | cn g d => exact h.2.2.2.2
  | st g x => exact h.2.2.2.2.2.2.2
  | rc g x => exact h.2.2.2.2.2.2.1
theorem Rel11.placeE {L place slot : Int} {m : M11} {r : R11} (h : Rel11 L place slot m r) : (if r.kind = 0 ∧ r.line = 0 then r.place else -1) = m.tellsP L := by
  have hb := h.lineB
  cases m with
  | rv g x =>
    obtain ⟨h1, h2, h3, h4, h5, h6, h7⟩ := h
    rw [h6]
    by_cases hd : x.dn = true
    · have hl : r.line = 0 := by rw [h5, if_pos hd]
      rw [if_pos ⟨h2, hl⟩]
      rfl
    · have hd' : x.dn = false := by simpa using hd
      have ht : RvM.tells L x = -1 := by unfold RvM.tells; rw [if_neg (by rw [hd']; simp)]
      rw [ht]
      show _ = RvM.tells L x
      rw [ht]
      split <;> rfl
  | cn g d => rw [if_neg (by rw [h.1]; omega)]; rfl
  | st g x => rw [if_neg (by rw [h.2.1]; omega)]; rfl
  | rc g x => rw [if_neg (by rw [h.2.1]; omega)]; rfl
theorem Rel11.wf {L place slot : Int} {m : M11} {r : R11} (h : Rel11 L place slot m r) : m.Wf L := by
  cases m with
  | rv g x => exact ⟨fun _ _ e => (by injection e with _ e; rw [← e]; exact h.1), fun _ _ e => (by cases e), fun _ _ e => (by cases e)⟩
  | cn g d => exact ⟨fun _ _ e => (by cases e), fun _ _ e => (by cases e), fun _ _ e => (by cases e)⟩
  | st g x => exact ⟨fun _ _ e => (by cases e), fun _ _ e => (by injection e with _ e; rw [← e]; exact h.1), fun _ _ e => (by cases e)⟩
  | rc g x => exact ⟨fun _ _ e => (by cases e), fun _ _ e => (by cases e), fun _ _ e => (by injection e with _ e; rw [← e]; exact h.1)⟩
theorem stS_wfP {F : Nat → Int} {t place slot : Int} {x : StM} {s : MSt} (h : x.Wf) (hU : ∀ a, W64 (peekV s a)) : (stS F t place slot x s).1.Wf := by
  obtain ⟨part, ep, dn⟩ := x
  obtain ⟨hp, he⟩ := h
  simp only at hp he
  cases dn
  · rcases hp with (rfl | rfl | rfl | rfl) | hd
    · have e : stS F t place slot ⟨0, ep, false⟩ s = (⟨1, peekV s (-1), false⟩, s.load t (-1)) := rfl
      rw [e]
      exact ⟨Or.inl (Or.inr (Or.inl rfl)), hU (-1)⟩
    · exact ⟨Or.inl (Or.inr (Or.inr (Or.inl rfl))), he⟩
    · exact ⟨Or.inl (Or.inr (Or.inr (Or.inr rfl))), he⟩
    · exact ⟨Or.inr rfl, he⟩
    · cases hd
  · exact ⟨hp, he⟩
theorem Rel11.step_rv {L : Nat} {F : Nat → Int} {t place slot : Int} {s : MSt} {g : Nat} {x : RvM} {r : R11} (hL : F 2 = (L : Int)) (h : Rel11 (L : Int) place slot (.rv g x) r) : (r11S F t r s).2 = (rvS F t slot x s).2 ∧ Rel11 (L : Int) place slot (.rv g (rvS F t slot x s).1) (r11S F t r s).1 := by
  have hw := rvS_wf (t := t) (slot := slot) (s := s) hL h.1
  obtain ⟨pl, part, dn⟩ := x
  obtain ⟨kind, line, n, sl, plc, now, holds, count, push⟩ := r
  obtain ⟨h1, h2, h3, h4, h5, h6, h7, h8⟩ := h
  simp only at h2 h3 h4 h5 h6 h7 h8
  subst h2 h3 h4 h6 h7 h8
  obtain ⟨hp, ⟨h0, h0L⟩, hlt⟩ := h1
  simp only at hp h0 h0L hlt
  cases dn
  · have hl0 := hlt rfl
    rcases hp with (rfl | rfl | rfl | rfl) | hd
    · have hl : line = 1 := h5
      subst hl
      have e1 : rvS F t sl ⟨n, 0, false⟩ s = (if peekV s (logN F t n) = 0 then ⟨n, 1, false⟩ else ⟨n + 1, 0, decide (F 2 ≤ n + 1)⟩, s.load t (logN F t n)) := rfl
      have e2 : r11S F t ⟨0, 1, n, sl, RvM.tells (L : Int) ⟨n, 0, false⟩, now, -1, 0, push⟩ s = (if peekV s (logN F t n) = 0 then R11.at ⟨0, 1, n, sl, RvM.tells (L : Int) ⟨n, 0, false⟩, now, -1, 0, push⟩ 2 else R11.on F ⟨0, 1, n, sl, RvM.tells (L : Int) ⟨n, 0, false⟩, now, -1, 0, push⟩, s.load t (logN F t n)) := rfl
      rw [e1] at hw ⊢
      rw [e2]
      refine ⟨rfl, ?_⟩
      simp only at hw ⊢
      by_cases hv : peekV s (logN F t n) = 0
      · rw [if_pos hv] at hw ⊢
        rw [if_pos hv]
        exact ⟨hw, rfl, rfl, rfl, rfl, rfl, rfl, rfl⟩
      · rw [if_neg hv] at hw ⊢
        rw [if_neg hv]
        refine ⟨hw, rfl, rfl, rfl, ?_, ?_, rfl, rfl⟩
        · show (if n + 1 = F 2 then (0 : Int) else 1) = if decide (F 2 ≤ n + 1) = true then 0 else 0 + 1
          rw [hL]
          by_cases he : n + 1 = (L : Int)
          · rw [if_pos he, if_pos (by simp; omega)]
          · rw [if_neg he, if_neg (by simp; omega)]
            rfl
        · show RvM.tells (L : Int) ⟨n, 0, false⟩ = if decide (F 2 ≤ n + 1) = true ∧ n + 1 < (L : Int) then n + 1 else -1
          rw [if_neg (by rw [hL]; simp)]
          rfl
    · have hl : line = 2 := h5
      subst hl
      exact ⟨rfl, hw, rfl, rfl, rfl, rfl, rfl, rfl, rfl⟩
    · have hl : line = 3 := h5
      subst hl
      exact ⟨rfl, hw, rfl, rfl, rfl, rfl, rfl, rfl, rfl⟩
    · have hl : line = 4 := h5
      subst hl
      refine ⟨rfl, hw, rfl, rfl, rfl, rfl, ?_, rfl, rfl⟩
      show n = if true = true ∧ n < (L : Int) then n else -1
      rw [if_pos ⟨rfl, hl0⟩]
    · cases hd
  · have hl : line = 0 := h5
    subst hl
    exact ⟨rfl, hw, rfl, rfl, rfl, rfl, rfl, rfl, rfl⟩
theorem Rel11.step_st {L : Int} {F : Nat → Int} {t place slot : Int} {s : MSt} {g : Nat} {x : StM} {r : R11} (hU : ∀ a, W64 (peekV s a)) (h : Rel11 L place slot (.st g x) r) : (r11S F t r s).2 = (stS F t place slot x s).2 ∧ Rel11 L place slot (.st g (stS F t place slot x s).1) (r11S F t r s).1 := by
  have hw := stS_wfP (F := F) (t := t) (place := place) (slot := slot) h.1 hU
  obtain ⟨part, ep, dn⟩ := x
  obtain ⟨kind, line, n, sl, plc, now, holds, count, push⟩ := r
  obtain ⟨h1, h2, h3, h4, h6, h5, h7, h8⟩ := h
  simp only at h2 h3 h4 h5 h6 h7 h8
  subst h2 h3 h4 h6 h7 h8
  obtain ⟨hp, he⟩ := h1
  simp only at hp he
  cases dn
  · rcases hp with (rfl | rfl | rfl | rfl) | hd
    · have hl : line = 1 := h5
      subst hl
      exact ⟨rfl, hw, rfl, rfl, rfl, rfl, rfl, rfl, rfl⟩
    · have hl : line = 2 := h5
      subst hl
      exact ⟨rfl, hw, rfl, rfl, rfl, rfl, rfl, rfl, rfl⟩
    · have hl : line = 3 := h5
      subst hl
      exact ⟨rfl, hw, rfl, rfl, rfl, rfl, rfl, rfl, rfl⟩
    · have hl : line = 4 := h5
      subst hl
      exact ⟨rfl, hw, rfl, rfl, rfl, rfl, rfl, rfl, rfl⟩
    · cases hd
  · have hl : line = 0 := h5
    subst hl
    exact ⟨rfl, hw, rfl, rfl, rfl, rfl, rfl, rfl, rfl⟩
theorem Rel11.step_cn {L : Int} {F : Nat → Int} {t place slot : Int} {s : MSt} {g : Nat} {d : Bool} {r : R11} (h : Rel11 L place slot (.cn g d) r) : (r11S F t r s).2 = cnS F t place d s ∧ Rel11 L place slot (.cn g true) (r11S F t r s).1 := by
  obtain ⟨kind, line, n, sl, plc, now, holds, count, push⟩ := r
  obtain ⟨h2, h3, h5, h7, h8⟩ := h
  simp only at h2 h3 h5 h7 h8
  subst h2 h3 h7 h8
  cases d
  · have hl : line = 1 := h5
    subst hl
    exact ⟨rfl, rfl, rfl, rfl, rfl, rfl⟩
  · have hl : line = 0 := h5
    subst hl
    exact ⟨rfl, rfl, rfl, rfl, rfl, rfl⟩
theorem Rel11.step_rc {L : Nat} {F : Nat → Int} {t place slot n : Int} {s : MSt} {g gn : Nat} {x : RcM} {r : R11} (hL : F 2 = (L : Int)) (h0L : 0 < L) (hU : ∀ a, W64 (peekV s a)) (hc : CalmN n s) (h : Rel11 (L : Int) place slot (.rc g x) r) : (r11S F t r s).2 = (rcS F t x s gn).2 ∧ Rel11 (L : Int) place slot (.rc g (rcS F t x s gn).1) (r11S F t r s).1 := by
  have hw := (rcS_wf (g := gn) (t := t) hL h0L hU h.1 hc).1
  obtain ⟨dn, part, ep, pl, sl, push, ct⟩ := x
  obtain ⟨kind, line, m, rsl, plc, now, holds, count, rpush⟩ := r
  obtain ⟨h1, h2, h3, h4, h5, h6, h7, h8, h9⟩ := h
  simp only at h2 h3 h4 h5 h6 h7 h8 h9
  subst h2 h3 h4 h6 h7
  obtain ⟨⟨hpa, hep, hpl, hlt, hsl, hno, hpu, hnd, hct⟩, hp0⟩ := h1
  simp only at hpa hep hpl hlt hsl hno hpu hnd hct hp0
  cases dn
  · have hl0 := hlt rfl
    rcases hpa with (rfl | rfl | rfl | rfl) | hd
    · have hl : line = 1 := h5
      subst hl
      have e0 := hp0 rfl rfl
      have en := hno rfl (by decide)
      subst e0 en
      refine ⟨rfl, hw, rfl, rfl, rfl, ?_, rfl, rfl, fun _ hh => ?_, fun q e => by cases e⟩
      · show (2 : Int) = if decide (F 2 ≤ 0) = true then 0 else 1 + 1
        rw [hL, if_neg (by simp; omega)]
        rfl
      · rcases hh with hh | hh
        · exact absurd (show (1 : Int) = 2 from hh) (by decide)
        · exact absurd (show (1 : Int) = 3 from hh) (by decide)
    · have hl : line = 2 := h5
      subst hl
      have en := hno rfl (by decide)
      subst en
      have e1 : rcS F t ⟨false, 1, now, m, sl, none, count⟩ s gn = (if overB now (peekV s (logN F t m)) = true then ⟨false, 2, now, m, toN (peekV s (logN F t m)), none, count⟩ else RcM.goOn F ⟨false, 1, now, m, sl, none, count⟩ (m + 1), s.load t (logN F t m)) := rfl
      have e2 : r11S F t ⟨3, 2, m, rsl, plc, now, RcM.tells ⟨false, 1, now, m, sl, none, count⟩, count, rpush⟩ s = (if overB now (peekV s (logN F t m)) = true then ⟨3, 3, m, toN (peekV s (logN F t m)), plc, now, RcM.tells ⟨false, 1, now, m, sl, none, count⟩, count, rpush⟩ else R11.on F ⟨3, 2, m, rsl, plc, now, RcM.tells ⟨false, 1, now, m, sl, none, count⟩, count, rpush⟩, s.load t (logN F t m)) := rfl
      rw [e1] at hw ⊢
      rw [e2]
      refine ⟨rfl, ?_⟩
      simp only at hw ⊢
      by_cases hv : overB now (peekV s (logN F t m)) = true
      · rw [if_pos hv] at hw ⊢
        rw [if_pos hv]
        exact ⟨hw, rfl, rfl, rfl, rfl, rfl, rfl, fun _ _ => rfl, fun q e => by cases e⟩
      · rw [if_neg hv] at hw ⊢
        rw [if_neg hv]
        refine ⟨hw, rfl, rfl, rfl, ?_, rfl, rfl, fun _ hh => ?_, fun q e => by cases e⟩
        · show (if m + 1 = F 2 then (0 : Int) else 2) = if decide (F 2 ≤ m + 1) = true then 0 else 1 + 1
          rw [hL]
          by_cases he : m + 1 = (L : Int)
          · rw [if_pos he, if_pos (by simp; omega)]
          · rw [if_neg he, if_neg (by simp; omega)]
            rfl
        · rcases hh with hh | hh
          · exact absurd (show (1 : Int) = 2 from hh) (by decide)
          · exact absurd (show (1 : Int) = 3 from hh) (by decide)
    · have hl : line = 3 := h5
      subst hl
      have en := hno rfl (by decide)
      subst en
      have es : rsl = sl := h8 rfl (Or.inl rfl)
      subst es
      exact ⟨rfl, hw, rfl, rfl, rfl, rfl, rfl, rfl, fun _ _ => rfl, fun q e => by injection e with e; subst e; exact ⟨_, rfl, RelU.zero hsl⟩⟩
    · have hl : line = 4 := h5
      subst hl
      obtain ⟨gq, y, rfl, hy, hyd, hyy⟩ := hpu rfl rfl
      obtain ⟨p, rfl, hrel⟩ := h9 (gq, y) rfl
      obtain ⟨u1, u2⟩ := hrel.step (F := F) (t := t) (s := s) hU
      have es : rsl = sl := h8 rfl (Or.inr rfl)
      subst es
      have e1 : rcS F t ⟨false, 3, now, m, rsl, some (gq, y), count⟩ s gn = (if (pushS F t y s).1.dn = true then RcM.goOn F ⟨false, 3, now, m, rsl, none, count + 1⟩ (m + 1) else ⟨false, 3, now, m, rsl, some (gq, (pushS F t y s).1), count⟩, (pushS F t y s).2) := rfl
      have e2 : r11S F t ⟨3, 4, m, rsl, plc, now, RcM.tells ⟨false, 3, now, m, rsl, some (gq, y), count⟩, count, some p⟩ s = (if (rpushS F t p s).1.line = 0 then R11.on F ⟨3, 2, m, rsl, plc, now, -1, count + 1, some (rpushS F t p s).1⟩ else ⟨3, 4, m, rsl, plc, now, RcM.tells ⟨false, 3, now, m, rsl, some (gq, y), count⟩, count, some (rpushS F t p s).1⟩, (rpushS F t p s).2) := rfl
      rw [e1] at hw ⊢
      rw [e2]
      refine ⟨u1, ?_⟩
      simp only at hw ⊢
      have hb := u2.lineB
      by_cases hv : (pushS F t y s).1.dn = true
      · rw [hv, beq_iff_eq] at hb
        rw [if_pos hv] at hw ⊢
        rw [if_pos hb]
        refine ⟨hw, rfl, rfl, rfl, ?_, rfl, rfl, fun _ hh => ?_, fun q e => by cases e⟩
        · show (if m + 1 = F 2 then (0 : Int) else 2) = if decide (F 2 ≤ m + 1) = true then 0 else 1 + 1
          rw [hL]
          by_cases he : m + 1 = (L : Int)
          · rw [if_pos he, if_pos (by simp; omega)]
          · rw [if_neg he, if_neg (by simp; omega)]
            rfl
        · rcases hh with hh | hh
          · exact absurd (show (1 : Int) = 2 from hh) (by decide)
          · exact absurd (show (1 : Int) = 3 from hh) (by decide)
      · have hb' : ¬ (rpushS F t p s).1.line = 0 := by
          intro e
          rw [e] at hb
          exact hv (by rw [← hb]; rfl)
        rw [if_neg hv] at hw ⊢
        rw [if_neg hb']
        exact ⟨hw, rfl, rfl, rfl, rfl, rfl, rfl, fun _ _ => rfl, fun q e => by injection e with e; subst e; exact ⟨_, rfl, u2⟩⟩
    · cases hd
  · have hl : line = 0 := h5
    subst hl
    have en := hnd rfl
    subst en
    exact ⟨rfl, hw, rfl, rfl, rfl, rfl, rfl, rfl, fun (hd : true = false) => (by cases hd), fun q e => (by cases e)⟩
theorem Rel11.step {L : Nat} {F : Nat → Int} {t place slot n : Int} {s : MSt} {gn : Nat} {m : M11} {r : R11} (hL : F 2 = (L : Int)) (h0L : 0 < L) (hU : ∀ a, W64 (peekV s a)) (hc : CalmN n s) (h : Rel11 (L : Int) place slot m r) : (r11S F t r s).2 = (m.S F t place slot s gn).2 ∧ Rel11 (L : Int) place slot (m.S F t place slot s gn).1 (r11S F t r s).1 := by
  cases m with
  | rv g x => exact h.step_rv hL
  | cn g d => exact h.step_cn
  | st g x => exact h.step_st hU
  | rc g x => exact h.step_rc hL h0L hU hc
end Go.Proofs.YtbicloceaddinaaGreat


/- The four machines of package retire as one: a step, and what it tells. Conditions: those that each theorem names. -/
namespace Go.Proofs.YtbicloceaddinaaGreat
open Go.ChangeShapes Go.WideShapes Go.ChangeAt Go.RowKit
set_option linter.unusedVariables false
set_option maxRecDepth 100000 in
set_option maxHeartbeats 2000000 in
theorem m11step_0 (w : World) (gp gm : Nat) {P : Bool → World → Prop} (hS : Calls Tryz.prog 54 #[.pointer (some ⟨gp, 0, none⟩), .pointer (some ⟨gm, 0, none⟩)] (w.alloc (.cells #[.pointer (some ⟨gp, 0, none⟩), .pointer none, .pointer none, .pointer none] 41)) fun e w' => ∃ r, e = .returned (.bool r) ∧ P r w') :
    Calls Tryz.prog 10 #[.agg #[.pointer (some ⟨gp, 0, none⟩), .pointer none, .pointer none, .pointer none], .pointer (some ⟨gm, 0, none⟩)] w fun e w' => ∃ r, e = .returned (.bool r) ∧ P r w' := by
  have HS := Lib.hid hS
  have b0 := Blk.new w 41 [.pointer (some ⟨gp, 0, none⟩), .pointer none, .pointer none, .pointer none]
  have c0 : (w.alloc (.cells #[.pointer (some ⟨gp, 0, none⟩), .pointer none, .pointer none, .pointer none] 41)).cell? ⟨w.heap.size, 0, none⟩ = some (.pointer (some ⟨gp, 0, none⟩)) := b0.cell 0
  have c1 : (w.alloc (.cells #[.pointer (some ⟨gp, 0, none⟩), .pointer none, .pointer none, .pointer none] 41)).cell? ⟨w.heap.size, 1, none⟩ = some (.pointer none) := b0.cell 1
  have c2 : (w.alloc (.cells #[.pointer (some ⟨gp, 0, none⟩), .pointer none, .pointer none, .pointer none] 41)).cell? ⟨w.heap.size, 2, none⟩ = some (.pointer none) := b0.cell 2
  have c3 : (w.alloc (.cells #[.pointer (some ⟨gp, 0, none⟩), .pointer none, .pointer none, .pointer none] 41)).cell? ⟨w.heap.size, 3, none⟩ = some (.pointer none) := b0.cell 3
  clear hS b0
  go_enter Tryz.func10, Tryz.ntmps10
  go_upto_region 1 with fail
  generalize w.alloc (.cells #[.pointer (some ⟨gp, 0, none⟩), .pointer none, .pointer none, .pointer none] 41) = w1 at *
  go_wp2_with fail
  refine HS.out.mono ?_
  rintro e w2 ⟨r, rfl, hP⟩
  have PP := Lib.hid hP
  clear hP c0 c1 c2 c3
  go_wp2_with fail
  go_ret
  exact ⟨r, rfl, PP.out⟩
set_option maxRecDepth 100000 in
set_option maxHeartbeats 2000000 in
theorem m11step_1 (w : World) (gp gm : Nat) {P : Bool → World → Prop} (hS : Calls Tryz.prog 61 #[.pointer (some ⟨gp, 0, none⟩), .pointer (some ⟨gm, 0, none⟩)] (w.alloc (.cells #[.pointer none, .pointer (some ⟨gp, 0, none⟩), .pointer none, .pointer none] 41)) fun e w' => ∃ r, e = .returned (.bool r) ∧ P r w') :
    Calls Tryz.prog 10 #[.agg #[.pointer none, .pointer (some ⟨gp, 0, none⟩), .pointer none, .pointer none], .pointer (some ⟨gm, 0, none⟩)] w fun e w' => ∃ r, e = .returned (.bool r) ∧ P r w' := by
  have HS := Lib.hid hS
  have b0 := Blk.new w 41 [.pointer none, .pointer (some ⟨gp, 0, none⟩), .pointer none, .pointer none]
  have c0 : (w.alloc (.cells #[.pointer none, .pointer (some ⟨gp, 0, none⟩), .pointer none, .pointer none] 41)).cell? ⟨w.heap.size, 0, none⟩ = some (.pointer none) := b0.cell 0
  have c1 : (w.alloc (.cells #[.pointer none, .pointer (some ⟨gp, 0, none⟩), .pointer none, .pointer none] 41)).cell? ⟨w.heap.size, 1, none⟩ = some (.pointer (some ⟨gp, 0, none⟩)) := b0.cell 1
  have c2 : (w.alloc (.cells #[.pointer none, .pointer (some ⟨gp, 0, none⟩), .pointer none, .pointer none] 41)).cell? ⟨w.heap.size, 2, none⟩ = some (.pointer none) := b0.cell 2
  have c3 : (w.alloc (.cells #[.pointer none, .pointer (some ⟨gp, 0, none⟩), .pointer none, .pointer none] 41)).cell? ⟨w.heap.size, 3, none⟩ = some (.pointer none) := b0.cell 3
  clear hS b0
  go_enter Tryz.func10, Tryz.ntmps10
  go_upto_region 1 with fail
  generalize w.alloc (.cells #[.pointer none, .pointer (some ⟨gp, 0, none⟩), .pointer none, .pointer none] 41) = w1 at *
  go_wp2_with fail
  refine HS.out.mono ?_
  rintro e w2 ⟨r, rfl, hP⟩
  have PP := Lib.hid hP
  clear hP c0 c1 c2 c3
  go_wp2_with fail
  go_ret
  exact ⟨r, rfl, PP.out⟩
set_option maxRecDepth 100000 in
set_option maxHeartbeats 2000000 in
theorem m11step_2 (w : World) (gp gm : Nat) {P : Bool → World → Prop} (hS : Calls Tryz.prog 62 #[.pointer (some ⟨gp, 0, none⟩), .pointer (some ⟨gm, 0, none⟩)] (w.alloc (.cells #[.pointer none, .pointer none, .pointer (some ⟨gp, 0, none⟩), .pointer none] 41)) fun e w' => ∃ r, e = .returned (.bool r) ∧ P r w') :
    Calls Tryz.prog 10 #[.agg #[.pointer none, .pointer none, .pointer (some ⟨gp, 0, none⟩), .pointer none], .pointer (some ⟨gm, 0, none⟩)] w fun e w' => ∃ r, e = .returned (.bool r) ∧ P r w' := by
  have HS := Lib.hid hS
  have b0 := Blk.new w 41 [.pointer none, .pointer none, .pointer (some ⟨gp, 0, none⟩), .pointer none]
  have c0 : (w.alloc (.cells #[.pointer none, .pointer none, .pointer (some ⟨gp, 0, none⟩), .pointer none] 41)).cell? ⟨w.heap.size, 0, none⟩ = some (.pointer none) := b0.cell 0
  have c1 : (w.alloc (.cells #[.pointer none, .pointer none, .pointer (some ⟨gp, 0, none⟩), .pointer none] 41)).cell? ⟨w.heap.size, 1, none⟩ = some (.pointer none) := b0.cell 1
  have c2 : (w.alloc (.cells #[.pointer none, .pointer none, .pointer (some ⟨gp, 0, none⟩), .pointer none] 41)).cell? ⟨w.heap.size, 2, none⟩ = some (.pointer (some ⟨gp, 0, none⟩)) := b0.cell 2
  have c3 : (w.alloc (.cells #[.pointer none, .pointer none, .pointer (some ⟨gp, 0, none⟩), .pointer none] 41)).cell? ⟨w.heap.size, 3, none⟩ = some (.pointer none) := b0.cell 3
  clear hS b0
  go_enter Tryz.func10, Tryz.ntmps10
  go_upto_region 1 with fail
  generalize w.alloc (.cells #[.pointer none, .pointer none, .pointer (some ⟨gp, 0, none⟩), .pointer none] 41) = w1 at *
  go_wp2_with fail
  refine HS.out.mono ?_
  rintro e w2 ⟨r, rfl, hP⟩
  have PP := Lib.hid hP
  clear hP c0 c1 c2 c3
  go_wp2_with fail
  go_ret
  exact ⟨r, rfl, PP.out⟩
set_option maxRecDepth 100000 in
set_option maxHeartbeats 2000000 in
theorem m11step_3 (w : World) (gp gm : Nat) {P : Bool → World → Prop} (hS : Calls Tryz.prog 63 #[.pointer (some ⟨gp, 0, none⟩), .pointer (some ⟨gm, 0, none⟩)] (w.alloc (.cells #[.pointer none, .pointer none, .pointer none, .pointer (some ⟨gp, 0, none⟩)] 41)) fun e w' => ∃ r, e = .returned (.bool r) ∧ P r w') :
    Calls Tryz.prog 10 #[.agg #[.pointer none, .pointer none, .pointer none, .pointer (some ⟨gp, 0, none⟩)], .pointer (some ⟨gm, 0, none⟩)] w fun e w' => ∃ r, e = .returned (.bool r) ∧ P r w' := by
  have HS := Lib.hid hS
  have b0 := Blk.new w 41 [.pointer none, .pointer none, .pointer none, .pointer (some ⟨gp, 0, none⟩)]
  have c0 : (w.alloc (.cells #[.pointer none, .pointer none, .pointer none, .pointer (some ⟨gp, 0, none⟩)] 41)).cell? ⟨w.heap.size, 0, none⟩ = some (.pointer none) := b0.cell 0
  have c1 : (w.alloc (.cells #[.pointer none, .pointer none, .pointer none, .pointer (some ⟨gp, 0, none⟩)] 41)).cell? ⟨w.heap.size, 1, none⟩ = some (.pointer none) := b0.cell 1
  have c2 : (w.alloc (.cells #[.pointer none, .pointer none, .pointer none, .pointer (some ⟨gp, 0, none⟩)] 41)).cell? ⟨w.heap.size, 2, none⟩ = some (.pointer none) := b0.cell 2
  have c3 : (w.alloc (.cells #[.pointer none, .pointer none, .pointer none, .pointer (some ⟨gp, 0, none⟩)] 41)).cell? ⟨w.heap.size, 3, none⟩ = some (.pointer (some ⟨gp, 0, none⟩)) := b0.cell 3
  clear hS b0
  go_enter Tryz.func10, Tryz.ntmps10
  go_upto_region 1 with fail
  generalize w.alloc (.cells #[.pointer none, .pointer none, .pointer none, .pointer (some ⟨gp, 0, none⟩)] 41) = w1 at *
  go_wp2_with fail
  refine HS.out.mono ?_
  rintro e w2 ⟨r, rfl, hP⟩
  have PP := Lib.hid hP
  clear hP c0 c1 c2 c3
  go_wp2_with fail
  go_ret
  exact ⟨r, rfl, PP.out⟩
set_option maxRecDepth 100000 in
set_option maxHeartbeats 8000000 in
theorem m11same_gen (w : World) (v0 v1 v2 v3 : Option Addr) (gq : Nat) (d0 d1 d2 d3 : Bool) (pl ho ct kind line place holds count : Int)
    (h0 : ∀ W, Ext w W → Calls Tryz.prog 56 #[.pointer v0] W fun e w' => e = .returned (.bool d0) ∧ Ext W w')
    (h1 : ∀ W, Ext w W → Calls Tryz.prog 83 #[.pointer v1] W fun e w' => e = .returned (.bool d1) ∧ Ext W w')
    (h2 : ∀ W, Ext w W → Calls Tryz.prog 84 #[.pointer v2] W fun e w' => e = .returned (.bool d2) ∧ Ext W w')
    (h3 : ∀ W, Ext w W → Calls Tryz.prog 85 #[.pointer v3] W fun e w' => e = .returned (.bool d3) ∧ Ext W w')
    (hp : ∀ W, Ext w W → Calls Tryz.prog 57 #[.pointer v0] W fun e w' => e = .returned (.int .i64 pl) ∧ Ext W w')
    (hh : ∀ W, Ext w W → Calls Tryz.prog 86 #[.pointer v3] W fun e w' => e = .returned (.int .i64 holds) ∧ Ext W w')
    (hc : ∀ W, Ext w W → Calls Tryz.prog 87 #[.pointer v3] W fun e w' => e = .returned (.int .i64 count) ∧ Ext W w')
    (y5 : w.cell? ⟨gq, 5, none⟩ = some (.int .i64 kind)) (y6 : w.cell? ⟨gq, 6, none⟩ = some (.int .i64 line)) (y9 : w.cell? ⟨gq, 9, none⟩ = some (.int .i64 place)) (y11 : w.cell? ⟨gq, 11, none⟩ = some (.int .i64 holds)) (y12 : w.cell? ⟨gq, 12, none⟩ = some (.int .i64 count))
    (hd : (line == 0) = (d0 && (d1 && (d2 && d3)))) (hpl : (if kind = 0 ∧ line = 0 then place else -1) = pl) :
    Calls Tryz.prog 15 #[.agg #[.pointer v0, .pointer v1, .pointer v2, .pointer v3], .pointer (some ⟨gq, 0, none⟩)] w fun e w' => e = .returned (.bool true) ∧ Ext w w' := by
  have H0 := Lib.hid h0
  have H1 := Lib.hid h1
  have H2 := Lib.hid h2
  have H3 := Lib.hid h3
  have HP := Lib.hid hp
  have HH := Lib.hid hh
  have HC := Lib.hid hc
  have HD := Lib.hid hd
  have HPl := Lib.hid hpl
  have HY : Hid (∀ W, Ext w W → W.cell? ⟨gq, 5, none⟩ = some (.int .i64 kind) ∧ W.cell? ⟨gq, 6, none⟩ = some (.int .i64 line) ∧ W.cell? ⟨gq, 9, none⟩ = some (.int .i64 place) ∧ W.cell? ⟨gq, 11, none⟩ = some (.int .i64 holds) ∧ W.cell? ⟨gq, 12, none⟩ = some (.int .i64 count)) := Lib.hid (fun W x => ⟨cellE y5 x, cellE y6 x, cellE y9 x, cellE y11 x, cellE y12 x⟩)
  have b0 := Blk.new w 41 [.pointer v0, .pointer v1, .pointer v2, .pointer v3]
  have XX := Lib.hid ((Ext.refl w).alloc (.cells #[.pointer v0, .pointer v1, .pointer v2, .pointer v3] 41))
  have HB := Lib.hid (fun W (x : Ext (w.alloc (.cells #[.pointer v0, .pointer v1, .pointer v2, .pointer v3] 41)) W) => (show W.cell? ⟨w.heap.size, 0, none⟩ = some (.pointer v0) ∧ W.cell? ⟨w.heap.size, 1, none⟩ = some (.pointer v1) ∧ W.cell? ⟨w.heap.size, 2, none⟩ = some (.pointer v2) ∧ W.cell? ⟨w.heap.size, 3, none⟩ = some (.pointer v3) from ⟨(b0.ext x).cell 0, (b0.ext x).cell 1, (b0.ext x).cell 2, (b0.ext x).cell 3⟩))
  clear h0 h1 h2 h3 hp hh hc hd hpl y5 y6 y9 y11 y12 b0
  go_enter Tryz.func15, Tryz.ntmps15
  go_upto_region 1 with fail
  generalize w.alloc (.cells #[.pointer v0, .pointer v1, .pointer v2, .pointer v3] 41) = w1 at *
  have XB := Lib.hid (Ext.refl w1)
  obtain ⟨k0, k1, k2, k3⟩ := HB.out w1 (Ext.refl w1)
  go_cut [5] (fun s5 wx => s5 = .bool (d0 && (d1 && (d2 && d3))) ∧ Ext w1 wx)
  case first =>
    clear k1 k2 k3
    go_wp2_with fail
    refine (H0.out _ XX.out).mono ?_
    rintro e w2 ⟨rfl, x2⟩
    obtain ⟨k0, k1, k2, k3⟩ := HB.out w2 x2
    have X2 := Lib.hid x2
    clear x2 k0 k2 k3
    cases d0
    · go_wp2_with fail
      go_meet
      exact ⟨rfl, X2.out⟩
    · go_wp2_with fail
      refine (H1.out _ (XX.out.trans X2.out)).mono ?_
      rintro e w3 ⟨rfl, x3⟩
      obtain ⟨k0, k1, k2, k3⟩ := HB.out w3 (X2.out.trans x3)
      have X3 := Lib.hid (X2.out.trans x3)
      clear x3 k0 k1 k3
      cases d1
      · go_wp2_with fail
        go_meet
        exact ⟨rfl, X3.out⟩
      · go_wp2_with fail
        refine (H2.out _ (XX.out.trans X3.out)).mono ?_
        rintro e w4 ⟨rfl, x4⟩
        obtain ⟨k0, k1, k2, k3⟩ := HB.out w4 (X3.out.trans x4)
        have X4 := Lib.hid (X3.out.trans x4)
        clear x4 k0 k1 k2
        cases d2
        · go_wp2_with fail
          go_meet
          exact ⟨rfl, X4.out⟩
        · go_wp2_with fail
          refine (H3.out _ (XX.out.trans X4.out)).mono ?_
          rintro e w5 ⟨rfl, x5⟩
          have X5 := Lib.hid (X4.out.trans x5)
          clear x5 k3
          go_wp2_with fail
          go_meet
          exact ⟨rfl, X5.out⟩
  case rest =>
    obtain ⟨rfl, xc⟩ := hcut
    have XC := Lib.hid xc
    clear xc k0 k1 k2 k3
    rw [← HD.out]
    obtain ⟨D, hD⟩ : ∃ D : Bool, (line == 0) = D := ⟨_, rfl⟩
    rw [hD]
    have HDD := Lib.hid hD
    clear H0 H1 H2 H3 HD hD
    generalize wc = wb at *
    obtain ⟨y5, y6, y9, y11, y12⟩ := HY.out wb (XX.out.trans XC.out)
    go_upto_region 3 with fail
    go_cut [36] (fun s36 wx => s36 = .bool (decide (kind = 0) && decide (line = 0)) ∧ Ext w1 wx)
    case first =>
      by_cases hk : kind = 0
      · have e0 : decide (kind = 0) = true := by simpa using hk
        have e0' : (kind == 0) = true := by rw [beq_iff_eq]; exact hk
        clear HPl hk
        go_wp2_with fail
        go_meet
        exact ⟨by first | rfl | (rw [e0]; rfl) | simp [e0], XC.out⟩
      · have e0 : decide (kind = 0) = false := by simpa using hk
        have e0' : (kind == 0) = false := by rw [beq_eq_false_iff_ne]; exact hk
        clear HPl hk
        go_wp2_with fail
        go_meet
        exact ⟨by first | rfl | (rw [e0]; rfl) | simp [e0], XC.out⟩
    case rest =>
    obtain ⟨rfl, xc⟩ := hcut
    replace XC := Lib.hid xc
    clear xc y5 y6 y9 y11 y12
    generalize wc = wb2 at *
    obtain ⟨y5, y6, y9, y11, y12⟩ := HY.out wb2 (XX.out.trans XC.out)
    go_upto_if 36 with fail
    go_cut [6] (fun s6 wx => s6 = .int .i64 pl ∧ Ext w1 wx)
    case first =>
      by_cases hk : kind = 0 ∧ line = 0
      · have q0 : place = pl := by rw [← HPl.out, if_pos hk]
        have e0 : decide (kind = 0) = true := by simpa using hk.1
        have e1 : decide (line = 0) = true := by simpa using hk.2
        have HQ := Lib.hid q0
        clear q0 HPl hk
        rw [e0, e1]
        go_wp2_with fail
        go_meet
        exact ⟨by rw [HQ.out], XC.out⟩
      · have q0 : -1 = pl := by rw [← HPl.out, if_neg hk]
        have e0 : (decide (kind = 0) && decide (line = 0)) = false := by simpa using hk
        have HQ := Lib.hid q0
        clear q0 HPl hk
        rw [e0]
        go_wp2_with fail
        go_meet
        exact ⟨by rw [HQ.out], XC.out⟩
    case rest =>
      obtain ⟨rfl, xc⟩ := hcut
      have XD := Lib.hid xc
      clear xc y5 y6 y9 y11 y12 XC HPl
      generalize wc = wd at *
      obtain ⟨k0, k1, k2, k3⟩ := HB.out wd XD.out
      obtain ⟨y5, y6, y9, y11, y12⟩ := HY.out wd (XX.out.trans XD.out)
      have z0 := fun d os => cell_regrown k0 d os
      have z3 := fun d os => cell_regrown k3 d os
      have z6 := fun d os => cell_regrown y6 d os
      have z11 := fun d os => cell_regrown y11 d os
      have z12 := fun d os => cell_regrown y12 d os
      have dd : decide (line = 0) = D := by rw [← HDD.out]; rfl
      have bb : (D == D) = true := by cases D <;> rfl
      have dl : (line == 0) = D := HDD.out
      have XW := Lib.hid (XX.out.trans XD.out)
      clear k1 k2 y5 y9 XX XD
      go_wp2_with fail
      refine wp_region_quiet_below (by kernel_rfl) (by kernel_rfl) ?_
      repeat (quiet_step (first
        | (with_reducible exact Calls.regrown_of (HP.out _ (XW.out.trans (grown_extF _ _ _))))
        | (with_reducible exact Calls.regrown_of (HH.out _ (XW.out.trans (grown_extF _ _ _))))
        | (with_reducible exact Calls.regrown_of (HC.out _ (XW.out.trans (grown_extF _ _ _))))))
      refine wpQuiet_nil ?_
      intro wf hwf
      have XF : Ext wd wf := by
        obtain ⟨⟨dq, osq⟩, hw2⟩ := hwf
        rw [hw2]
        exact grown_extF _ _ _
      have X7 := Lib.hid (XW.out.trans XF)
      clear hwf z0 z3 z6 z11 z12 k0 k3 y6 y11 y12 XF
      go_wp2_with fail
      go_ret
      exact ⟨rfl, X7.out⟩
end Go.Proofs.YtbicloceaddinaaGreat


/- The four machines of package retire, made; a step of any of them. Conditions: those that each theorem names. -/
namespace Go.Proofs.YtbicloceaddinaaGreat
open Go.ChangeShapes Go.WideShapes Go.ChangeAt Go.RowKit
set_option linter.unusedVariables false
theorem results_made11 {P : Program} {fn : Func} {p u : Tmp} {ty : TypeId} (h : fn.results = #[.cell p ty, .tmp u]) (tmps : Array Value) (w : World) (g : Nat) (t : TypeId) (cs : Array Value) (fr : Nat × Nat) (d : TypeDesc)
    (hp : tmps.getD p undef = .pointer (some ⟨g, 0, none⟩)) (hg : w.heap[g]? = some (.cells cs t fr)) (hu : P.underlying ty = some d) (hd : (match d with | .struct _ | .array _ _ => true | _ => false) = true) (hi : (P.info? ty).map (·.size) = some cs.size) :
    (results fn tmps).run P w = .ok (.tuple #[.agg cs, tmps.getD u undef]) w := by
  rw [results_cell_tmp h, hp]
  simp [asAddr, run_loadVar_row w g t ty cs fr d hg hu hd hi, Result.andThen]
/-- The document's machine, as it is made. -/
def r11new (kd place slot : Int) : R11 := if kd = 0 then ⟨0, 1, 0, slot, -1, 0, -1, 0, none⟩ else if kd = 1 then ⟨1, 1, place, slot, -1, 0, -1, 0, none⟩ else if kd = 2 then ⟨2, 1, place, slot, -1, 0, -1, 0, none⟩ else ⟨3, 1, 0, slot, -1, 0, -1, 0, none⟩
structure Made11 (w : World) (gl : Nat) (t s l b kd tn place slot : Int) (w' : World) (g gr : Nat) : Prop where
  g0 : w.heap.size ≤ g
  r0 : w.heap.size ≤ gr
  ne : g ≠ gr
  own : Blk w' g (newM11 kd g).ty ((newM11 kd g).cells gl tn place slot)
  r : Blk w' gr 55 ((r11new kd place slot).cells t s l b tn)
  x : Ext w w'
def MadeP11 (w : World) (gl : Nat) (t s l b kd tn place slot : Int) (e : Ending) (w' : World) : Prop := ∃ g gr, e = .returned (.tuple #[.agg #[.pointer (newM11 kd g).p0, .pointer (newM11 kd g).p1, .pointer (newM11 kd g).p2, .pointer (newM11 kd g).p3], .pointer (some ⟨gr, 0, none⟩)]) ∧ Made11 w gl t s l b kd tn place slot w' g gr
set_option maxRecDepth 100000 in
set_option maxHeartbeats 4000000 in
theorem made11_0 (w : World) (gl : Nat) (t s l b kd tn place slot : Int) (hk : kd = 0) :
    Calls Tryz.prog 9 #[.pointer (some ⟨gl, 0, none⟩), .agg #[.int .i64 t, .int .i64 s, .int .i64 l, .int .i64 b], .agg #[.int .i64 kd, .int .i64 tn, .int .i64 place, .int .i64 slot]] w (MadeP11 w gl t s l b kd tn place slot) := by
  subst hk
  have x0 := ((Ext.refl w).alloc (.cells #[.int .i64 t, .int .i64 s, .int .i64 l, .int .i64 b] 23)).alloc (.cells #[.int .i64 0, .int .i64 tn, .int .i64 place, .int .i64 slot] 28)
  have bc := (Blk.new w 23 [.int .i64 t, .int .i64 s, .int .i64 l, .int .i64 b]).ext ((Ext.refl (w.alloc (.cells #[.int .i64 t, .int .i64 s, .int .i64 l, .int .i64 b] 23))).alloc (.cells #[.int .i64 0, .int .i64 tn, .int .i64 place, .int .i64 slot] 28))
  have bw := Blk.new (w.alloc (.cells #[.int .i64 t, .int .i64 s, .int .i64 l, .int .i64 b] 23)) 28 [.int .i64 0, .int .i64 tn, .int .i64 place, .int .i64 slot]
  have bm := Blk.new ((w.alloc (.cells #[.int .i64 t, .int .i64 s, .int .i64 l, .int .i64 b] 23)).alloc (.cells #[.int .i64 0, .int .i64 tn, .int .i64 place, .int .i64 slot] 28)) 41 [.pointer none, .pointer none, .pointer none, .pointer none]
  have xm := (Ext.refl ((w.alloc (.cells #[.int .i64 t, .int .i64 s, .int .i64 l, .int .i64 b] 23)).alloc (.cells #[.int .i64 0, .int .i64 tn, .int .i64 place, .int .i64 slot] 28))).alloc (.cells #[.pointer none, .pointer none, .pointer none, .pointer none] 41)
  have bc2 := bc.ext xm
  have bw2 := bw.ext xm
  have x2 := x0.trans xm
  simp only [World.size_alloc] at bm bw2
  go_enter Tryz.func9, Tryz.ntmps9
  go_upto_region 1 with fail
  generalize (((w.alloc (.cells #[.int .i64 t, .int .i64 s, .int .i64 l, .int .i64 b] 23)).alloc (.cells #[.int .i64 0, .int .i64 tn, .int .i64 place, .int .i64 slot] 28)).alloc (.cells #[.pointer none, .pointer none, .pointer none, .pointer none] 41)) = w2 at *
  have HY := Lib.hid (fun W (x : Ext w2 W) => (show (W.cell? ⟨w.heap.size, 0, none⟩ = some (.int .i64 t) ∧ W.cell? ⟨w.heap.size, 1, none⟩ = some (.int .i64 s) ∧ W.cell? ⟨w.heap.size, 2, none⟩ = some (.int .i64 l) ∧ W.cell? ⟨w.heap.size, 3, none⟩ = some (.int .i64 b)) ∧ W.cell? ⟨w.heap.size + 1, 0, none⟩ = some (.int .i64 0) ∧ W.cell? ⟨w.heap.size + 1, 1, none⟩ = some (.int .i64 tn) ∧ W.cell? ⟨w.heap.size + 1, 2, none⟩ = some (.int .i64 place) ∧ W.cell? ⟨w.heap.size + 1, 3, none⟩ = some (.int .i64 slot) from ⟨⟨(bc2.ext x).cell 0, (bc2.ext x).cell 1, (bc2.ext x).cell 2, (bc2.ext x).cell 3⟩, (bw2.ext x).cell 0, (bw2.ext x).cell 1, (bw2.ext x).cell 2, (bw2.ext x).cell 3⟩))
  obtain ⟨⟨y0, y1, y2, y3⟩, u0, u1, u2, u3⟩ := HY.out w2 (Ext.refl w2)
  have HBW := Lib.hid bw2
  clear x0 bc bw bc2 bw2 xm
  go_upto_region 2 with fail
  have x3 := (Ext.refl w2).alloc (.cells #[.int .i64 t, .int .i64 s, .int .i64 l, .int .i64 b, .int .i64 tn, .int .i64 0, .int .i64 1, .int .i64 0, .int .i64 slot, .int .i64 (-1), .int .u64 0, .int .i64 (-1), .int .i64 0, .int .i64 0, .int .i64 0, .int .i64 0, .int .i64 0, .int .i64 0, .int .i64 0, .int .u64 0, .int .i64 0] 55)
  have br := Blk.new w2 55 [.int .i64 t, .int .i64 s, .int .i64 l, .int .i64 b, .int .i64 tn, .int .i64 0, .int .i64 1, .int .i64 0, .int .i64 slot, .int .i64 (-1), .int .u64 0, .int .i64 (-1), .int .i64 0, .int .i64 0, .int .i64 0, .int .i64 0, .int .i64 0, .int .i64 0, .int .i64 0, .int .u64 0, .int .i64 0]
  have bm3 := bm.ext x3
  have hs2 := x2.size
  have hms := bm.lt
  generalize w2.alloc (.cells #[.int .i64 t, .int .i64 s, .int .i64 l, .int .i64 b, .int .i64 tn, .int .i64 0, .int .i64 1, .int .i64 0, .int .i64 slot, .int .i64 (-1), .int .u64 0, .int .i64 (-1), .int .i64 0, .int .i64 0, .int .i64 0, .int .i64 0, .int .i64 0, .int .i64 0, .int .i64 0, .int .u64 0, .int .i64 0] 55) = w3 at *
  have X3 := Lib.hid (x2.trans x3)
  have BR := Lib.hid br
  have BM := Lib.hid bm3
  have BW := Lib.hid (HBW.out.ext x3)
  have HS := Lib.hid (show w.heap.size ≤ w2.heap.size ∧ w.heap.size + 2 < w2.heap.size from ⟨hs2, hms⟩)
  clear y0 y1 y2 y3 u0 u1 u2 u3
  obtain ⟨⟨y0, y1, y2, y3⟩, u0, u1, u2, u3⟩ := HY.out w3 x3
  clear x2 bm x3 br bm3 hs2 hms y0 y1 y2 y3
  generalize w2.heap.size = gr at *
  go_wp2_with fail
  refine (newReserve_ok w3 gl tn slot).mono ?_
  rintro e w5 ⟨g, rfl, lg, bg, x5⟩
  have hb5 := BM.out.ext x5
  have HTh : Hid (w5.there (w.heap.size + 2) 0 4) := Lib.hid (fun j hj => ⟨by
    have h := hb5.cell (0 + j)
    rw [h]
    have hj4 : j = 0 ∨ j = 1 ∨ j = 2 ∨ j = 3 := by omega
    rcases hj4 with rfl | rfl | rfl | rfl <;> rfl, hb5.frozen _⟩)
  have hr3 := BR.out.lt
  have m1 := (((hb5.set 0 (.pointer (some ⟨g, 0, none⟩))).set 1 (.pointer none)).set 2 (.pointer none)).set 3 (.pointer none)
  have x6 : Ext w ((((w5.setCell ⟨w.heap.size + 2, 0, none⟩ (.pointer (some ⟨g, 0, none⟩))).setCell ⟨w.heap.size + 2, 1, none⟩ (.pointer none)).setCell ⟨w.heap.size + 2, 2, none⟩ (.pointer none)).setCell ⟨w.heap.size + 2, 3, none⟩ (.pointer none)) := ((((X3.out.trans x5).setCell (p := ⟨w.heap.size + 2, 0, none⟩) (by show w.heap.size ≤ w.heap.size + 2; omega) _).setCell (p := ⟨w.heap.size + 2, 1, none⟩) (by show w.heap.size ≤ w.heap.size + 2; omega) _).setCell (p := ⟨w.heap.size + 2, 2, none⟩) (by show w.heap.size ≤ w.heap.size + 2; omega) _).setCell (p := ⟨w.heap.size + 2, 3, none⟩) (by show w.heap.size ≤ w.heap.size + 2; omega) _
  have hne1 : g ≠ w.heap.size + 2 := by have := HS.out.2; omega
  have hne2 : gr ≠ w.heap.size + 2 := by have := HS.out.2; omega
  have hnw : ∀ g, newM11 0 g = M11.rv g ⟨0, 0, false⟩ := fun g => rfl
  have hrw : r11new 0 place slot = ⟨0, 1, 0, slot, -1, 0, -1, 0, none⟩ := rfl
  have MD : Hid (Made11 w gl t s l b 0 tn place slot ((((w5.setCell ⟨w.heap.size + 2, 0, none⟩ (.pointer (some ⟨g, 0, none⟩))).setCell ⟨w.heap.size + 2, 1, none⟩ (.pointer none)).setCell ⟨w.heap.size + 2, 2, none⟩ (.pointer none)).setCell ⟨w.heap.size + 2, 3, none⟩ (.pointer none)) g gr) := Lib.hid
    ⟨by have := HS.out.1; omega, HS.out.1, by omega, by rw [hnw]; exact (((bg.far (p := ⟨w.heap.size + 2, 0, none⟩) hne1 _).far (p := ⟨w.heap.size + 2, 1, none⟩) hne1 _).far (p := ⟨w.heap.size + 2, 2, none⟩) hne1 _).far (p := ⟨w.heap.size + 2, 3, none⟩) hne1 _,
      by rw [hrw]; exact ((((BR.out.ext x5).far (p := ⟨w.heap.size + 2, 0, none⟩) hne2 _).far (p := ⟨w.heap.size + 2, 1, none⟩) hne2 _).far (p := ⟨w.heap.size + 2, 2, none⟩) hne2 _).far (p := ⟨w.heap.size + 2, 3, none⟩) hne2 _, x6⟩
  have M1 := Lib.hid m1
  have HNw := Lib.hid (hnw g)
  clear hb5 m1 x6 lg bg x5 hne1 hne2 hr3 hnw hrw
  go_wp2_with ((with_reducible refine (id ?_ : wpList _ _ _ ({ dst := none, op := Op.store _ _ _, type := _, pos := _, after := _, guard := _ } :: _) _ _)); refine Hid.out ?_)
  refine Lib.hid ?_
  refine wpList_store_mid rfl _ (.tmp 6) (.tmp 28) rfl (w.heap.size + 2) 0 #[.pointer (some ⟨g, 0, none⟩), .pointer none, .pointer none, .pointer none] (by rfl) (by rfl) HTh.out (by kernel_rfl) (by simp [Value.oneCell']) ?_
  go_wp2_with fail
  (try simp only [Exit.inBlock, Exit.then])
  refine bodyPost_ret (results_made11 rfl _ _ (w.heap.size + 2) 41 #[.pointer (some ⟨g, 0, none⟩), .pointer none, .pointer none, .pointer none] (0, 0) _ (by rfl) M1.out Tryz.underlying41 rfl (by kernel_rfl)) rfl ?_
  refine ⟨g, gr, ?_, MD.out⟩
  rw [HNw.out]
  rfl
set_option maxRecDepth 100000 in
set_option maxHeartbeats 4000000 in
theorem made11_1 (w : World) (gl : Nat) (t s l b kd tn place slot : Int) (hk : kd = 1) :
    Calls Tryz.prog 9 #[.pointer (some ⟨gl, 0, none⟩), .agg #[.int .i64 t, .int .i64 s, .int .i64 l, .int .i64 b], .agg #[.int .i64 kd, .int .i64 tn, .int .i64 place, .int .i64 slot]] w (MadeP11 w gl t s l b kd tn place slot) := by
  subst hk
  have x0 := ((Ext.refl w).alloc (.cells #[.int .i64 t, .int .i64 s, .int .i64 l, .int .i64 b] 23)).alloc (.cells #[.int .i64 1, .int .i64 tn, .int .i64 place, .int .i64 slot] 28)
  have bc := (Blk.new w 23 [.int .i64 t, .int .i64 s, .int .i64 l, .int .i64 b]).ext ((Ext.refl (w.alloc (.cells #[.int .i64 t, .int .i64 s, .int .i64 l, .int .i64 b] 23))).alloc (.cells #[.int .i64 1, .int .i64 tn, .int .i64 place, .int .i64 slot] 28))
  have bw := Blk.new (w.alloc (.cells #[.int .i64 t, .int .i64 s, .int .i64 l, .int .i64 b] 23)) 28 [.int .i64 1, .int .i64 tn, .int .i64 place, .int .i64 slot]
  have bm := Blk.new ((w.alloc (.cells #[.int .i64 t, .int .i64 s, .int .i64 l, .int .i64 b] 23)).alloc (.cells #[.int .i64 1, .int .i64 tn, .int .i64 place, .int .i64 slot] 28)) 41 [.pointer none, .pointer none, .pointer none, .pointer none]
  have xm := (Ext.refl ((w.alloc (.cells #[.int .i64 t, .int .i64 s, .int .i64 l, .int .i64 b] 23)).alloc (.cells #[.int .i64 1, .int .i64 tn, .int .i64 place, .int .i64 slot] 28))).alloc (.cells #[.pointer none, .pointer none, .pointer none, .pointer none] 41)
  have bc2 := bc.ext xm
  have bw2 := bw.ext xm
  have x2 := x0.trans xm
  simp only [World.size_alloc] at bm bw2
  go_enter Tryz.func9, Tryz.ntmps9
  go_upto_region 1 with fail
  generalize (((w.alloc (.cells #[.int .i64 t, .int .i64 s, .int .i64 l, .int .i64 b] 23)).alloc (.cells #[.int .i64 1, .int .i64 tn, .int .i64 place, .int .i64 slot] 28)).alloc (.cells #[.pointer none, .pointer none, .pointer none, .pointer none] 41)) = w2 at *
  have HY := Lib.hid (fun W (x : Ext w2 W) => (show (W.cell? ⟨w.heap.size, 0, none⟩ = some (.int .i64 t) ∧ W.cell? ⟨w.heap.size, 1, none⟩ = some (.int .i64 s) ∧ W.cell? ⟨w.heap.size, 2, none⟩ = some (.int .i64 l) ∧ W.cell? ⟨w.heap.size, 3, none⟩ = some (.int .i64 b)) ∧ W.cell? ⟨w.heap.size + 1, 0, none⟩ = some (.int .i64 1) ∧ W.cell? ⟨w.heap.size + 1, 1, none⟩ = some (.int .i64 tn) ∧ W.cell? ⟨w.heap.size + 1, 2, none⟩ = some (.int .i64 place) ∧ W.cell? ⟨w.heap.size + 1, 3, none⟩ = some (.int .i64 slot) from ⟨⟨(bc2.ext x).cell 0, (bc2.ext x).cell 1, (bc2.ext x).cell 2, (bc2.ext x).cell 3⟩, (bw2.ext x).cell 0, (bw2.ext x).cell 1, (bw2.ext x).cell 2, (bw2.ext x).cell 3⟩))
  obtain ⟨⟨y0, y1, y2, y3⟩, u0, u1, u2, u3⟩ := HY.out w2 (Ext.refl w2)
  have HBW := Lib.hid bw2
  clear x0 bc bw bc2 bw2 xm
  go_upto_region 2 with fail
  have x3 := (Ext.refl w2).alloc (.cells #[.int .i64 t, .int .i64 s, .int .i64 l, .int .i64 b, .int .i64 tn, .int .i64 1, .int .i64 1, .int .i64 0, .int .i64 slot, .int .i64 (-1), .int .u64 0, .int .i64 (-1), .int .i64 0, .int .i64 0, .int .i64 0, .int .i64 0, .int .i64 0, .int .i64 0, .int .i64 0, .int .u64 0, .int .i64 0] 55)
  have br := Blk.new w2 55 [.int .i64 t, .int .i64 s, .int .i64 l, .int .i64 b, .int .i64 tn, .int .i64 1, .int .i64 1, .int .i64 0, .int .i64 slot, .int .i64 (-1), .int .u64 0, .int .i64 (-1), .int .i64 0, .int .i64 0, .int .i64 0, .int .i64 0, .int .i64 0, .int .i64 0, .int .i64 0, .int .u64 0, .int .i64 0]
  have bm3 := bm.ext x3
  have hs2 := x2.size
  have hms := bm.lt
  generalize w2.alloc (.cells #[.int .i64 t, .int .i64 s, .int .i64 l, .int .i64 b, .int .i64 tn, .int .i64 1, .int .i64 1, .int .i64 0, .int .i64 slot, .int .i64 (-1), .int .u64 0, .int .i64 (-1), .int .i64 0, .int .i64 0, .int .i64 0, .int .i64 0, .int .i64 0, .int .i64 0, .int .i64 0, .int .u64 0, .int .i64 0] 55) = w3 at *
  have X3 := Lib.hid (x2.trans x3)
  have BR := Lib.hid br
  have BM := Lib.hid bm3
  have BW := Lib.hid (HBW.out.ext x3)
  have HS := Lib.hid (show w.heap.size ≤ w2.heap.size ∧ w.heap.size + 2 < w2.heap.size from ⟨hs2, hms⟩)
  clear y0 y1 y2 y3 u0 u1 u2 u3
  obtain ⟨⟨y0, y1, y2, y3⟩, u0, u1, u2, u3⟩ := HY.out w3 x3
  clear x2 bm x3 br bm3 hs2 hms y0 y1 y2 y3
  generalize w2.heap.size = gr at *
  have c7 : w3.cell? ⟨gr, 7, none⟩ = some (.int .i64 0) := BR.out.cell 7
  have z7 : w3.frozen? ⟨gr, 7, none⟩ = false := BR.out.frozen 7
  have BR2 := Lib.hid (BR.out.set 7 (.int .i64 place))
  have X4 := Lib.hid (X3.out.setCell (p := ⟨gr, 7, none⟩) HS.out.1 (.int .i64 place))
  have hne2 : w.heap.size + 2 ≠ gr := by have := HS.out.2; omega
  have BM2 := Lib.hid (BM.out.far (p := ⟨gr, 7, none⟩) hne2 (.int .i64 place))
  have HY2 : Hid ((w3.setCell ⟨gr, 7, none⟩ (.int .i64 place)).cell? ⟨w.heap.size + 1, 1, none⟩ = some (.int .i64 tn) ∧ (w3.setCell ⟨gr, 7, none⟩ (.int .i64 place)).cell? ⟨w.heap.size + 1, 2, none⟩ = some (.int .i64 place) ∧ (w3.setCell ⟨gr, 7, none⟩ (.int .i64 place)).cell? ⟨w.heap.size + 1, 3, none⟩ = some (.int .i64 slot)) := Lib.hid (by
    have n1 : ¬ (w.heap.size + 1) = gr := by have := HS.out.2; omega
    have b4 := BW.out.far (p := ⟨gr, 7, none⟩) n1 (.int .i64 place)
    exact ⟨b4.cell 1, b4.cell 2, b4.cell 3⟩)
  go_upto_region 7 with fail
  replace X3 := X4
  replace BR := BR2
  replace BM := BM2
  generalize w3.setCell ⟨gr, 7, none⟩ (.int .i64 place) = w4 at *
  clear u0 u1 u2 u3 c7 z7 hne2 X4 BR2 BM2
  obtain ⟨u1, u2, u3⟩ := HY2.out
  clear HY2
  go_wp2_with fail
  refine (newCancel_ok w4 gl tn place).mono ?_
  rintro e w5 ⟨g, rfl, lg, bg, x5⟩
  have hb5 := BM.out.ext x5
  have HTh : Hid (w5.there (w.heap.size + 2) 0 4) := Lib.hid (fun j hj => ⟨by
    have h := hb5.cell (0 + j)
    rw [h]
    have hj4 : j = 0 ∨ j = 1 ∨ j = 2 ∨ j = 3 := by omega
    rcases hj4 with rfl | rfl | rfl | rfl <;> rfl, hb5.frozen _⟩)
  have hr3 := BR.out.lt
  have m1 := (((hb5.set 0 (.pointer none)).set 1 (.pointer (some ⟨g, 0, none⟩))).set 2 (.pointer none)).set 3 (.pointer none)
  have x6 : Ext w ((((w5.setCell ⟨w.heap.size + 2, 0, none⟩ (.pointer none)).setCell ⟨w.heap.size + 2, 1, none⟩ (.pointer (some ⟨g, 0, none⟩))).setCell ⟨w.heap.size + 2, 2, none⟩ (.pointer none)).setCell ⟨w.heap.size + 2, 3, none⟩ (.pointer none)) := ((((X3.out.trans x5).setCell (p := ⟨w.heap.size + 2, 0, none⟩) (by show w.heap.size ≤ w.heap.size + 2; omega) _).setCell (p := ⟨w.heap.size + 2, 1, none⟩) (by show w.heap.size ≤ w.heap.size + 2; omega) _).setCell (p := ⟨w.heap.size + 2, 2, none⟩) (by show w.heap.size ≤ w.heap.size + 2; omega) _).setCell (p := ⟨w.heap.size + 2, 3, none⟩) (by show w.heap.size ≤ w.heap.size + 2; omega) _
  have hne1 : g ≠ w.heap.size + 2 := by have := HS.out.2; omega
  have hne2 : gr ≠ w.heap.size + 2 := by have := HS.out.2; omega
  have hnw : ∀ g, newM11 1 g = M11.cn g false := fun g => rfl
  have hrw : r11new 1 place slot = ⟨1, 1, place, slot, -1, 0, -1, 0, none⟩ := rfl
  have MD : Hid (Made11 w gl t s l b 1 tn place slot ((((w5.setCell ⟨w.heap.size + 2, 0, none⟩ (.pointer none)).setCell ⟨w.heap.size + 2, 1, none⟩ (.pointer (some ⟨g, 0, none⟩))).setCell ⟨w.heap.size + 2, 2, none⟩ (.pointer none)).setCell ⟨w.heap.size + 2, 3, none⟩ (.pointer none)) g gr) := Lib.hid
    ⟨by have := HS.out.1; omega, HS.out.1, by omega, by rw [hnw]; exact (((bg.far (p := ⟨w.heap.size + 2, 0, none⟩) hne1 _).far (p := ⟨w.heap.size + 2, 1, none⟩) hne1 _).far (p := ⟨w.heap.size + 2, 2, none⟩) hne1 _).far (p := ⟨w.heap.size + 2, 3, none⟩) hne1 _,
      by rw [hrw]; exact ((((BR.out.ext x5).far (p := ⟨w.heap.size + 2, 0, none⟩) hne2 _).far (p := ⟨w.heap.size + 2, 1, none⟩) hne2 _).far (p := ⟨w.heap.size + 2, 2, none⟩) hne2 _).far (p := ⟨w.heap.size + 2, 3, none⟩) hne2 _, x6⟩
  have M1 := Lib.hid m1
  have HNw := Lib.hid (hnw g)
  clear hb5 m1 x6 lg bg x5 hne1 hne2 hr3 hnw hrw
  go_wp2_with ((with_reducible refine (id ?_ : wpList _ _ _ ({ dst := none, op := Op.store _ _ _, type := _, pos := _, after := _, guard := _ } :: _) _ _)); refine Hid.out ?_)
  refine Lib.hid ?_
  refine wpList_store_mid rfl _ (.tmp 6) (.tmp 43) rfl (w.heap.size + 2) 0 #[.pointer none, .pointer (some ⟨g, 0, none⟩), .pointer none, .pointer none] (by rfl) (by rfl) HTh.out (by kernel_rfl) (by simp [Value.oneCell']) ?_
  go_wp2_with fail
  (try simp only [Exit.inBlock, Exit.then])
  refine bodyPost_ret (results_made11 rfl _ _ (w.heap.size + 2) 41 #[.pointer none, .pointer (some ⟨g, 0, none⟩), .pointer none, .pointer none] (0, 0) _ (by rfl) M1.out Tryz.underlying41 rfl (by kernel_rfl)) rfl ?_
  refine ⟨g, gr, ?_, MD.out⟩
  rw [HNw.out]
  rfl
set_option maxRecDepth 100000 in
set_option maxHeartbeats 4000000 in
theorem made11_2 (w : World) (gl : Nat) (t s l b kd tn place slot : Int) (hk : kd = 2) :
    Calls Tryz.prog 9 #[.pointer (some ⟨gl, 0, none⟩), .agg #[.int .i64 t, .int .i64 s, .int .i64 l, .int .i64 b], .agg #[.int .i64 kd, .int .i64 tn, .int .i64 place, .int .i64 slot]] w (MadeP11 w gl t s l b kd tn place slot) := by
  subst hk
  have x0 := ((Ext.refl w).alloc (.cells #[.int .i64 t, .int .i64 s, .int .i64 l, .int .i64 b] 23)).alloc (.cells #[.int .i64 2, .int .i64 tn, .int .i64 place, .int .i64 slot] 28)
  have bc := (Blk.new w 23 [.int .i64 t, .int .i64 s, .int .i64 l, .int .i64 b]).ext ((Ext.refl (w.alloc (.cells #[.int .i64 t, .int .i64 s, .int .i64 l, .int .i64 b] 23))).alloc (.cells #[.int .i64 2, .int .i64 tn, .int .i64 place, .int .i64 slot] 28))
  have bw := Blk.new (w.alloc (.cells #[.int .i64 t, .int .i64 s, .int .i64 l, .int .i64 b] 23)) 28 [.int .i64 2, .int .i64 tn, .int .i64 place, .int .i64 slot]
  have bm := Blk.new ((w.alloc (.cells #[.int .i64 t, .int .i64 s, .int .i64 l, .int .i64 b] 23)).alloc (.cells #[.int .i64 2, .int .i64 tn, .int .i64 place, .int .i64 slot] 28)) 41 [.pointer none, .pointer none, .pointer none, .pointer none]
  have xm := (Ext.refl ((w.alloc (.cells #[.int .i64 t, .int .i64 s, .int .i64 l, .int .i64 b] 23)).alloc (.cells #[.int .i64 2, .int .i64 tn, .int .i64 place, .int .i64 slot] 28))).alloc (.cells #[.pointer none, .pointer none, .pointer none, .pointer none] 41)
  have bc2 := bc.ext xm
  have bw2 := bw.ext xm
  have x2 := x0.trans xm
  simp only [World.size_alloc] at bm bw2
  go_enter Tryz.func9, Tryz.ntmps9
  go_upto_region 1 with fail
  generalize (((w.alloc (.cells #[.int .i64 t, .int .i64 s, .int .i64 l, .int .i64 b] 23)).alloc (.cells #[.int .i64 2, .int .i64 tn, .int .i64 place, .int .i64 slot] 28)).alloc (.cells #[.pointer none, .pointer none, .pointer none, .pointer none] 41)) = w2 at *
  have HY := Lib.hid (fun W (x : Ext w2 W) => (show (W.cell? ⟨w.heap.size, 0, none⟩ = some (.int .i64 t) ∧ W.cell? ⟨w.heap.size, 1, none⟩ = some (.int .i64 s) ∧ W.cell? ⟨w.heap.size, 2, none⟩ = some (.int .i64 l) ∧ W.cell? ⟨w.heap.size, 3, none⟩ = some (.int .i64 b)) ∧ W.cell? ⟨w.heap.size + 1, 0, none⟩ = some (.int .i64 2) ∧ W.cell? ⟨w.heap.size + 1, 1, none⟩ = some (.int .i64 tn) ∧ W.cell? ⟨w.heap.size + 1, 2, none⟩ = some (.int .i64 place) ∧ W.cell? ⟨w.heap.size + 1, 3, none⟩ = some (.int .i64 slot) from ⟨⟨(bc2.ext x).cell 0, (bc2.ext x).cell 1, (bc2.ext x).cell 2, (bc2.ext x).cell 3⟩, (bw2.ext x).cell 0, (bw2.ext x).cell 1, (bw2.ext x).cell 2, (bw2.ext x).cell 3⟩))
  obtain ⟨⟨y0, y1, y2, y3⟩, u0, u1, u2, u3⟩ := HY.out w2 (Ext.refl w2)
  have HBW := Lib.hid bw2
  clear x0 bc bw bc2 bw2 xm
  go_upto_region 2 with fail
  have x3 := (Ext.refl w2).alloc (.cells #[.int .i64 t, .int .i64 s, .int .i64 l, .int .i64 b, .int .i64 tn, .int .i64 2, .int .i64 1, .int .i64 0, .int .i64 slot, .int .i64 (-1), .int .u64 0, .int .i64 (-1), .int .i64 0, .int .i64 0, .int .i64 0, .int .i64 0, .int .i64 0, .int .i64 0, .int .i64 0, .int .u64 0, .int .i64 0] 55)
  have br := Blk.new w2 55 [.int .i64 t, .int .i64 s, .int .i64 l, .int .i64 b, .int .i64 tn, .int .i64 2, .int .i64 1, .int .i64 0, .int .i64 slot, .int .i64 (-1), .int .u64 0, .int .i64 (-1), .int .i64 0, .int .i64 0, .int .i64 0, .int .i64 0, .int .i64 0, .int .i64 0, .int .i64 0, .int .u64 0, .int .i64 0]
  have bm3 := bm.ext x3
  have hs2 := x2.size
  have hms := bm.lt
  generalize w2.alloc (.cells #[.int .i64 t, .int .i64 s, .int .i64 l, .int .i64 b, .int .i64 tn, .int .i64 2, .int .i64 1, .int .i64 0, .int .i64 slot, .int .i64 (-1), .int .u64 0, .int .i64 (-1), .int .i64 0, .int .i64 0, .int .i64 0, .int .i64 0, .int .i64 0, .int .i64 0, .int .i64 0, .int .u64 0, .int .i64 0] 55) = w3 at *
  have X3 := Lib.hid (x2.trans x3)
  have BR := Lib.hid br
  have BM := Lib.hid bm3
  have BW := Lib.hid (HBW.out.ext x3)
  have HS := Lib.hid (show w.heap.size ≤ w2.heap.size ∧ w.heap.size + 2 < w2.heap.size from ⟨hs2, hms⟩)
  clear y0 y1 y2 y3 u0 u1 u2 u3
  obtain ⟨⟨y0, y1, y2, y3⟩, u0, u1, u2, u3⟩ := HY.out w3 x3
  clear x2 bm x3 br bm3 hs2 hms y0 y1 y2 y3
  generalize w2.heap.size = gr at *
  have c7 : w3.cell? ⟨gr, 7, none⟩ = some (.int .i64 0) := BR.out.cell 7
  have z7 : w3.frozen? ⟨gr, 7, none⟩ = false := BR.out.frozen 7
  have BR2 := Lib.hid (BR.out.set 7 (.int .i64 place))
  have X4 := Lib.hid (X3.out.setCell (p := ⟨gr, 7, none⟩) HS.out.1 (.int .i64 place))
  have hne2 : w.heap.size + 2 ≠ gr := by have := HS.out.2; omega
  have BM2 := Lib.hid (BM.out.far (p := ⟨gr, 7, none⟩) hne2 (.int .i64 place))
  have HY2 : Hid ((w3.setCell ⟨gr, 7, none⟩ (.int .i64 place)).cell? ⟨w.heap.size + 1, 1, none⟩ = some (.int .i64 tn) ∧ (w3.setCell ⟨gr, 7, none⟩ (.int .i64 place)).cell? ⟨w.heap.size + 1, 2, none⟩ = some (.int .i64 place) ∧ (w3.setCell ⟨gr, 7, none⟩ (.int .i64 place)).cell? ⟨w.heap.size + 1, 3, none⟩ = some (.int .i64 slot)) := Lib.hid (by
    have n1 : ¬ (w.heap.size + 1) = gr := by have := HS.out.2; omega
    have b4 := BW.out.far (p := ⟨gr, 7, none⟩) n1 (.int .i64 place)
    exact ⟨b4.cell 1, b4.cell 2, b4.cell 3⟩)
  go_upto_region 10 with fail
  replace X3 := X4
  replace BR := BR2
  replace BM := BM2
  generalize w3.setCell ⟨gr, 7, none⟩ (.int .i64 place) = w4 at *
  clear u0 u1 u2 u3 c7 z7 hne2 X4 BR2 BM2
  obtain ⟨u1, u2, u3⟩ := HY2.out
  clear HY2
  go_wp2_with fail
  refine (newStamp_ok w4 gl tn place slot).mono ?_
  rintro e w5 ⟨g, rfl, lg, bg, x5⟩
  have hb5 := BM.out.ext x5
  have HTh : Hid (w5.there (w.heap.size + 2) 0 4) := Lib.hid (fun j hj => ⟨by
    have h := hb5.cell (0 + j)
    rw [h]
    have hj4 : j = 0 ∨ j = 1 ∨ j = 2 ∨ j = 3 := by omega
    rcases hj4 with rfl | rfl | rfl | rfl <;> rfl, hb5.frozen _⟩)
  have hr3 := BR.out.lt
  have m1 := (((hb5.set 0 (.pointer none)).set 1 (.pointer none)).set 2 (.pointer (some ⟨g, 0, none⟩))).set 3 (.pointer none)
  have x6 : Ext w ((((w5.setCell ⟨w.heap.size + 2, 0, none⟩ (.pointer none)).setCell ⟨w.heap.size + 2, 1, none⟩ (.pointer none)).setCell ⟨w.heap.size + 2, 2, none⟩ (.pointer (some ⟨g, 0, none⟩))).setCell ⟨w.heap.size + 2, 3, none⟩ (.pointer none)) := ((((X3.out.trans x5).setCell (p := ⟨w.heap.size + 2, 0, none⟩) (by show w.heap.size ≤ w.heap.size + 2; omega) _).setCell (p := ⟨w.heap.size + 2, 1, none⟩) (by show w.heap.size ≤ w.heap.size + 2; omega) _).setCell (p := ⟨w.heap.size + 2, 2, none⟩) (by show w.heap.size ≤ w.heap.size + 2; omega) _).setCell (p := ⟨w.heap.size + 2, 3, none⟩) (by show w.heap.size ≤ w.heap.size + 2; omega) _
  have hne1 : g ≠ w.heap.size + 2 := by have := HS.out.2; omega
  have hne2 : gr ≠ w.heap.size + 2 := by have := HS.out.2; omega
  have hnw : ∀ g, newM11 2 g = M11.st g ⟨0, 0, false⟩ := fun g => rfl
  have hrw : r11new 2 place slot = ⟨2, 1, place, slot, -1, 0, -1, 0, none⟩ := rfl
  have MD : Hid (Made11 w gl t s l b 2 tn place slot ((((w5.setCell ⟨w.heap.size + 2, 0, none⟩ (.pointer none)).setCell ⟨w.heap.size + 2, 1, none⟩ (.pointer none)).setCell ⟨w.heap.size + 2, 2, none⟩ (.pointer (some ⟨g, 0, none⟩))).setCell ⟨w.heap.size + 2, 3, none⟩ (.pointer none)) g gr) := Lib.hid
    ⟨by have := HS.out.1; omega, HS.out.1, by omega, by rw [hnw]; exact (((bg.far (p := ⟨w.heap.size + 2, 0, none⟩) hne1 _).far (p := ⟨w.heap.size + 2, 1, none⟩) hne1 _).far (p := ⟨w.heap.size + 2, 2, none⟩) hne1 _).far (p := ⟨w.heap.size + 2, 3, none⟩) hne1 _,
      by rw [hrw]; exact ((((BR.out.ext x5).far (p := ⟨w.heap.size + 2, 0, none⟩) hne2 _).far (p := ⟨w.heap.size + 2, 1, none⟩) hne2 _).far (p := ⟨w.heap.size + 2, 2, none⟩) hne2 _).far (p := ⟨w.heap.size + 2, 3, none⟩) hne2 _, x6⟩
  have M1 := Lib.hid m1
  have HNw := Lib.hid (hnw g)
  clear hb5 m1 x6 lg bg x5 hne1 hne2 hr3 hnw hrw
  go_wp2_with ((with_reducible refine (id ?_ : wpList _ _ _ ({ dst := none, op := Op.store _ _ _, type := _, pos := _, after := _, guard := _ } :: _) _ _)); refine Hid.out ?_)
  refine Lib.hid ?_
  refine wpList_store_mid rfl _ (.tmp 6) (.tmp 60) rfl (w.heap.size + 2) 0 #[.pointer none, .pointer none, .pointer (some ⟨g, 0, none⟩), .pointer none] (by rfl) (by rfl) HTh.out (by kernel_rfl) (by simp [Value.oneCell']) ?_
  go_wp2_with fail
  (try simp only [Exit.inBlock, Exit.then])
  refine bodyPost_ret (results_made11 rfl _ _ (w.heap.size + 2) 41 #[.pointer none, .pointer none, .pointer (some ⟨g, 0, none⟩), .pointer none] (0, 0) _ (by rfl) M1.out Tryz.underlying41 rfl (by kernel_rfl)) rfl ?_
  refine ⟨g, gr, ?_, MD.out⟩
  rw [HNw.out]
  rfl
set_option maxRecDepth 100000 in
set_option maxHeartbeats 4000000 in
theorem made11_3 (w : World) (gl : Nat) (t s l b kd tn place slot : Int) (h0 : ¬ kd = 0) (h1 : ¬ kd = 1) (h2 : ¬ kd = 2) :
    Calls Tryz.prog 9 #[.pointer (some ⟨gl, 0, none⟩), .agg #[.int .i64 t, .int .i64 s, .int .i64 l, .int .i64 b], .agg #[.int .i64 kd, .int .i64 tn, .int .i64 place, .int .i64 slot]] w (MadeP11 w gl t s l b kd tn place slot) := by
  have x0 := ((Ext.refl w).alloc (.cells #[.int .i64 t, .int .i64 s, .int .i64 l, .int .i64 b] 23)).alloc (.cells #[.int .i64 kd, .int .i64 tn, .int .i64 place, .int .i64 slot] 28)
  have bc := (Blk.new w 23 [.int .i64 t, .int .i64 s, .int .i64 l, .int .i64 b]).ext ((Ext.refl (w.alloc (.cells #[.int .i64 t, .int .i64 s, .int .i64 l, .int .i64 b] 23))).alloc (.cells #[.int .i64 kd, .int .i64 tn, .int .i64 place, .int .i64 slot] 28))
  have bw := Blk.new (w.alloc (.cells #[.int .i64 t, .int .i64 s, .int .i64 l, .int .i64 b] 23)) 28 [.int .i64 kd, .int .i64 tn, .int .i64 place, .int .i64 slot]
  have bm := Blk.new ((w.alloc (.cells #[.int .i64 t, .int .i64 s, .int .i64 l, .int .i64 b] 23)).alloc (.cells #[.int .i64 kd, .int .i64 tn, .int .i64 place, .int .i64 slot] 28)) 41 [.pointer none, .pointer none, .pointer none, .pointer none]
  have xm := (Ext.refl ((w.alloc (.cells #[.int .i64 t, .int .i64 s, .int .i64 l, .int .i64 b] 23)).alloc (.cells #[.int .i64 kd, .int .i64 tn, .int .i64 place, .int .i64 slot] 28))).alloc (.cells #[.pointer none, .pointer none, .pointer none, .pointer none] 41)
  have bc2 := bc.ext xm
  have bw2 := bw.ext xm
  have x2 := x0.trans xm
  simp only [World.size_alloc] at bm bw2
  go_enter Tryz.func9, Tryz.ntmps9
  go_upto_region 1 with fail
  generalize (((w.alloc (.cells #[.int .i64 t, .int .i64 s, .int .i64 l, .int .i64 b] 23)).alloc (.cells #[.int .i64 kd, .int .i64 tn, .int .i64 place, .int .i64 slot] 28)).alloc (.cells #[.pointer none, .pointer none, .pointer none, .pointer none] 41)) = w2 at *
  have HY := Lib.hid (fun W (x : Ext w2 W) => (show (W.cell? ⟨w.heap.size, 0, none⟩ = some (.int .i64 t) ∧ W.cell? ⟨w.heap.size, 1, none⟩ = some (.int .i64 s) ∧ W.cell? ⟨w.heap.size, 2, none⟩ = some (.int .i64 l) ∧ W.cell? ⟨w.heap.size, 3, none⟩ = some (.int .i64 b)) ∧ W.cell? ⟨w.heap.size + 1, 0, none⟩ = some (.int .i64 kd) ∧ W.cell? ⟨w.heap.size + 1, 1, none⟩ = some (.int .i64 tn) ∧ W.cell? ⟨w.heap.size + 1, 2, none⟩ = some (.int .i64 place) ∧ W.cell? ⟨w.heap.size + 1, 3, none⟩ = some (.int .i64 slot) from ⟨⟨(bc2.ext x).cell 0, (bc2.ext x).cell 1, (bc2.ext x).cell 2, (bc2.ext x).cell 3⟩, (bw2.ext x).cell 0, (bw2.ext x).cell 1, (bw2.ext x).cell 2, (bw2.ext x).cell 3⟩))
  obtain ⟨⟨y0, y1, y2, y3⟩, u0, u1, u2, u3⟩ := HY.out w2 (Ext.refl w2)
  have HBW := Lib.hid bw2
  clear x0 bc bw bc2 bw2 xm
  go_upto_region 2 with fail
  have x3 := (Ext.refl w2).alloc (.cells #[.int .i64 t, .int .i64 s, .int .i64 l, .int .i64 b, .int .i64 tn, .int .i64 kd, .int .i64 1, .int .i64 0, .int .i64 slot, .int .i64 (-1), .int .u64 0, .int .i64 (-1), .int .i64 0, .int .i64 0, .int .i64 0, .int .i64 0, .int .i64 0, .int .i64 0, .int .i64 0, .int .u64 0, .int .i64 0] 55)
  have br := Blk.new w2 55 [.int .i64 t, .int .i64 s, .int .i64 l, .int .i64 b, .int .i64 tn, .int .i64 kd, .int .i64 1, .int .i64 0, .int .i64 slot, .int .i64 (-1), .int .u64 0, .int .i64 (-1), .int .i64 0, .int .i64 0, .int .i64 0, .int .i64 0, .int .i64 0, .int .i64 0, .int .i64 0, .int .u64 0, .int .i64 0]
  have bm3 := bm.ext x3
  have hs2 := x2.size
  have hms := bm.lt
  generalize w2.alloc (.cells #[.int .i64 t, .int .i64 s, .int .i64 l, .int .i64 b, .int .i64 tn, .int .i64 kd, .int .i64 1, .int .i64 0, .int .i64 slot, .int .i64 (-1), .int .u64 0, .int .i64 (-1), .int .i64 0, .int .i64 0, .int .i64 0, .int .i64 0, .int .i64 0, .int .i64 0, .int .i64 0, .int .u64 0, .int .i64 0] 55) = w3 at *
  have X3 := Lib.hid (x2.trans x3)
  have BR := Lib.hid br
  have BM := Lib.hid bm3
  have BW := Lib.hid (HBW.out.ext x3)
  have HS := Lib.hid (show w.heap.size ≤ w2.heap.size ∧ w.heap.size + 2 < w2.heap.size from ⟨hs2, hms⟩)
  clear y0 y1 y2 y3 u0 u1 u2 u3
  obtain ⟨⟨y0, y1, y2, y3⟩, u0, u1, u2, u3⟩ := HY.out w3 x3
  clear x2 bm x3 br bm3 hs2 hms y0 y1 y2 y3
  generalize w2.heap.size = gr at *
  have k0 : (kd == 0) = false := by rw [beq_eq_false_iff_ne]; exact h0
  have k1 : (kd == 1) = false := by rw [beq_eq_false_iff_ne]; exact h1
  have k2 : (kd == 2) = false := by rw [beq_eq_false_iff_ne]; exact h2
  have q0 : decide (kd = 0) = false := by simpa using h0
  have q1 : decide (kd = 1) = false := by simpa using h1
  have q2 : decide (kd = 2) = false := by simpa using h2
  have c7 : w3.cell? ⟨gr, 5, none⟩ = some (.int .i64 kd) := BR.out.cell 5
  have z7 : w3.frozen? ⟨gr, 5, none⟩ = false := BR.out.frozen 5
  have BR2 := Lib.hid (BR.out.set 5 (.int .i64 3))
  have X4 := Lib.hid (X3.out.setCell (p := ⟨gr, 5, none⟩) HS.out.1 (.int .i64 3))
  have hne2 : w.heap.size + 2 ≠ gr := by have := HS.out.2; omega
  have BM2 := Lib.hid (BM.out.far (p := ⟨gr, 5, none⟩) hne2 (.int .i64 3))
  have HY2 : Hid ((w3.setCell ⟨gr, 5, none⟩ (.int .i64 3)).cell? ⟨w.heap.size + 1, 1, none⟩ = some (.int .i64 tn) ∧ (w3.setCell ⟨gr, 5, none⟩ (.int .i64 3)).cell? ⟨w.heap.size + 1, 2, none⟩ = some (.int .i64 place) ∧ (w3.setCell ⟨gr, 5, none⟩ (.int .i64 3)).cell? ⟨w.heap.size + 1, 3, none⟩ = some (.int .i64 slot)) := Lib.hid (by
    have n1 : ¬ (w.heap.size + 1) = gr := by have := HS.out.2; omega
    have b4 := BW.out.far (p := ⟨gr, 5, none⟩) n1 (.int .i64 3)
    exact ⟨b4.cell 1, b4.cell 2, b4.cell 3⟩)
  go_upto_region 12 with fail
  replace X3 := X4
  replace BR := BR2
  replace BM := BM2
  generalize w3.setCell ⟨gr, 5, none⟩ (.int .i64 3) = w4 at *
  clear u0 u1 u2 u3 c7 z7 hne2 X4 BR2 BM2
  obtain ⟨u1, u2, u3⟩ := HY2.out
  clear HY2
  go_wp2_with fail
  refine (newReclaim_ok w4 gl tn).mono ?_
  rintro e w5 ⟨g, rfl, lg, bg, x5⟩
  have hb5 := BM.out.ext x5
  have HTh : Hid (w5.there (w.heap.size + 2) 0 4) := Lib.hid (fun j hj => ⟨by
    have h := hb5.cell (0 + j)
    rw [h]
    have hj4 : j = 0 ∨ j = 1 ∨ j = 2 ∨ j = 3 := by omega
    rcases hj4 with rfl | rfl | rfl | rfl <;> rfl, hb5.frozen _⟩)
  have hr3 := BR.out.lt
  have m1 := (((hb5.set 0 (.pointer none)).set 1 (.pointer none)).set 2 (.pointer none)).set 3 (.pointer (some ⟨g, 0, none⟩))
  have x6 : Ext w ((((w5.setCell ⟨w.heap.size + 2, 0, none⟩ (.pointer none)).setCell ⟨w.heap.size + 2, 1, none⟩ (.pointer none)).setCell ⟨w.heap.size + 2, 2, none⟩ (.pointer none)).setCell ⟨w.heap.size + 2, 3, none⟩ (.pointer (some ⟨g, 0, none⟩))) := ((((X3.out.trans x5).setCell (p := ⟨w.heap.size + 2, 0, none⟩) (by show w.heap.size ≤ w.heap.size + 2; omega) _).setCell (p := ⟨w.heap.size + 2, 1, none⟩) (by show w.heap.size ≤ w.heap.size + 2; omega) _).setCell (p := ⟨w.heap.size + 2, 2, none⟩) (by show w.heap.size ≤ w.heap.size + 2; omega) _).setCell (p := ⟨w.heap.size + 2, 3, none⟩) (by show w.heap.size ≤ w.heap.size + 2; omega) _
  have hne1 : g ≠ w.heap.size + 2 := by have := HS.out.2; omega
  have hne2 : gr ≠ w.heap.size + 2 := by have := HS.out.2; omega
  have hnw : ∀ g, newM11 kd g = M11.rc g ⟨false, 0, 0, 0, 0, none, 0⟩ := fun g => by unfold newM11; rw [if_neg h0, if_neg h1, if_neg h2]
  have hrw : r11new kd place slot = ⟨3, 1, 0, slot, -1, 0, -1, 0, none⟩ := by unfold r11new; rw [if_neg h0, if_neg h1, if_neg h2]
  have MD : Hid (Made11 w gl t s l b kd tn place slot ((((w5.setCell ⟨w.heap.size + 2, 0, none⟩ (.pointer none)).setCell ⟨w.heap.size + 2, 1, none⟩ (.pointer none)).setCell ⟨w.heap.size + 2, 2, none⟩ (.pointer none)).setCell ⟨w.heap.size + 2, 3, none⟩ (.pointer (some ⟨g, 0, none⟩))) g gr) := Lib.hid
    ⟨by have := HS.out.1; omega, HS.out.1, by omega, by rw [hnw]; exact (((bg.far (p := ⟨w.heap.size + 2, 0, none⟩) hne1 _).far (p := ⟨w.heap.size + 2, 1, none⟩) hne1 _).far (p := ⟨w.heap.size + 2, 2, none⟩) hne1 _).far (p := ⟨w.heap.size + 2, 3, none⟩) hne1 _,
      by rw [hrw]; exact ((((BR.out.ext x5).far (p := ⟨w.heap.size + 2, 0, none⟩) hne2 _).far (p := ⟨w.heap.size + 2, 1, none⟩) hne2 _).far (p := ⟨w.heap.size + 2, 2, none⟩) hne2 _).far (p := ⟨w.heap.size + 2, 3, none⟩) hne2 _, x6⟩
  have M1 := Lib.hid m1
  have HNw := Lib.hid (hnw g)
  clear hb5 m1 x6 lg bg x5 hne1 hne2 hr3 hnw hrw
  go_wp2_with ((with_reducible refine (id ?_ : wpList _ _ _ ({ dst := none, op := Op.store _ _ _, type := _, pos := _, after := _, guard := _ } :: _) _ _)); refine Hid.out ?_)
  refine Lib.hid ?_
  refine wpList_store_mid rfl _ (.tmp 6) (.tmp 69) rfl (w.heap.size + 2) 0 #[.pointer none, .pointer none, .pointer none, .pointer (some ⟨g, 0, none⟩)] (by rfl) (by rfl) HTh.out (by kernel_rfl) (by simp [Value.oneCell']) ?_
  go_wp2_with fail
  (try simp only [Exit.inBlock, Exit.then])
  refine bodyPost_ret (results_made11 rfl _ _ (w.heap.size + 2) 41 #[.pointer none, .pointer none, .pointer none, .pointer (some ⟨g, 0, none⟩)] (0, 0) _ (by rfl) M1.out Tryz.underlying41 rfl (by kernel_rfl)) rfl ?_
  refine ⟨g, gr, ?_, MD.out⟩
  rw [HNw.out]
  rfl
theorem made11_ok (w : World) (gl : Nat) (t s l b kd tn place slot : Int) :
    Calls Tryz.prog 9 #[.pointer (some ⟨gl, 0, none⟩), .agg #[.int .i64 t, .int .i64 s, .int .i64 l, .int .i64 b], .agg #[.int .i64 kd, .int .i64 tn, .int .i64 place, .int .i64 slot]] w (MadeP11 w gl t s l b kd tn place slot) := by
  by_cases h0 : kd = 0
  · exact made11_0 w gl t s l b kd tn place slot h0
  by_cases h1 : kd = 1
  · exact made11_1 w gl t s l b kd tn place slot h1
  by_cases h2 : kd = 2
  · exact made11_2 w gl t s l b kd tn place slot h2
  · exact made11_3 w gl t s l b kd tn place slot h0 h1 h2
end Go.Proofs.YtbicloceaddinaaGreat


/- The four machines of package retire in a memory: any step, and what they tell beside the document's. Conditions: those that each theorem names. -/
namespace Go.Proofs.YtbicloceaddinaaGreat
open Go.ChangeShapes Go.WideShapes Go.ChangeAt Go.RowKit
set_option linter.unusedVariables false
/-- A machine, and all that it has of its own. -/
structure At11 (Q : Nat → Prop) (w0 w : World) (gm gl : Nat) (dv pv : Value) (t place slot : Int) (m : M11) (s : MSt) : Prop where
  mem : IsMem (fun b => Q b ∨ m.ownB b) w w0 w gm dv pv s
  blk : Blk w m.g m.ty (m.cells gl t place slot)
  push : ∀ q, m.push = some q → (¬ Q q.1 ∧ w0.heap.size ≤ q.1) ∧ Blk w q.1 259 (q.2.cells gl t)
section
variable {Q : Nat → Prop} {w0 w w' : World} {gm gl : Nat} {dv pv : Value} {s : MSt} {F : Nat → Int} {t place slot : Int} {m : M11}
theorem At11.ext (h : At11 Q w0 w gm gl dv pv t place slot m s) (e : Ext w w') : At11 Q w0 w' gm gl dv pv t place slot m s :=
  ⟨(h.mem.ext e).here, h.blk.ext e, fun q hq => ⟨(h.push q hq).1, (h.push q hq).2.ext e⟩⟩
/-- **A STEP OF ANY OF THEM.** -/
theorem m11step_ok {L i : Nat} (h : At11 Q w0 w gm gl dv pv t place slot m s) (hc : Calm s) (hi : i ≤ 1000) (fine : Fine i s.dev) (ok : Okay F) (h21 : F 21 = -1) (h22 : F 22 = -2) (hs : I64 slot) (hx : m.Wf (L : Int)) (hL : F 2 = (L : Int)) (hL5 : L ≤ 500) (hl : Blk w gl 173 (cellsF F)) (qp : Q m.g) (ql : Q gl) (nlp : gl ≠ m.g) (p0 : w0.heap.size ≤ m.g) :
    Calls Tryz.prog 10 #[.agg #[.pointer m.p0, .pointer m.p1, .pointer m.p2, .pointer m.p3], .pointer (some ⟨gm, 0, none⟩)] w fun e w' => ∃ gn, e = .returned (.bool (m.S F t place slot s gn).1.dn) ∧ At11 Q w0 w' gm gl dv pv t place slot (m.S F t place slot s gn).1 (m.S F t place slot s gn).2 ∧ (∀ b, Q b → b ≠ m.g → w'.heap[b]? = w.heap[b]?) := by
  have hm : IsMem Q w w0 w gm dv pv s := h.mem.reQ (fun b hb => Or.inl hb)
  cases m with
  | rv g x =>
    have e0 := (Ext.refl w).alloc (.cells #[.pointer (some ⟨g, 0, none⟩), .pointer none, .pointer none, .pointer none] 41)
    refine (m11step_0 w g gm (P := fun r w' => r = (rvS F t slot x s).1.dn ∧ IsMem Q w' w0 w' gm dv pv (rvS F t slot x s).2 ∧ Blk w' g 195 ((rvS F t slot x s).1.cells gl t slot) ∧ ∀ b, Q b → b ≠ g → w'.heap[b]? = w.heap[b]?) ?_).mono ?_
    · refine (rvStep_ok (hm.ext e0).here hc hi fine ok hs (hx.rv _ _ rfl) hL hL5 (h.blk.ext e0) (hl.ext e0) qp ql nlp p0).mono ?_
      rintro e w1 ⟨rfl, m1, b1, k1⟩
      exact ⟨_, rfl, rfl, m1, b1, fun b hb hn => (k1 b hb hn).trans (e0.block b (hm.lt.2 b hb))⟩
    · rintro e w1 ⟨r, rfl, rfl, m1, b1, k1⟩
      exact ⟨0, rfl, ⟨m1.reQ (fun b hb => hb.elim id (fun ⟨q, e, _⟩ => by cases e)), b1, fun q e => by cases e⟩, k1⟩
  | cn g d =>
    have e0 := (Ext.refl w).alloc (.cells #[.pointer none, .pointer (some ⟨g, 0, none⟩), .pointer none, .pointer none] 41)
    refine (m11step_1 w g gm (P := fun r w' => r = true ∧ IsMem Q w' w0 w' gm dv pv (cnS F t place d s) ∧ Blk w' g 201 (cnCells gl t place true) ∧ ∀ b, Q b → b ≠ g → w'.heap[b]? = w.heap[b]?) ?_).mono ?_
    · refine (cnStep_ok (hm.ext e0).here hc ok (h.blk.ext e0) (hl.ext e0) qp ql nlp p0).mono ?_
      rintro e w1 ⟨rfl, m1, b1, k1⟩
      exact ⟨_, rfl, rfl, m1, b1, fun b hb hn => (k1 b hb hn).trans (e0.block b (hm.lt.2 b hb))⟩
    · rintro e w1 ⟨r, rfl, rfl, m1, b1, k1⟩
      exact ⟨0, rfl, ⟨m1.reQ (fun b hb => hb.elim id (fun ⟨q, e, _⟩ => by cases e)), b1, fun q e => by cases e⟩, k1⟩
  | st g x =>
    have e0 := (Ext.refl w).alloc (.cells #[.pointer none, .pointer none, .pointer (some ⟨g, 0, none⟩), .pointer none] 41)
    refine (m11step_2 w g gm (P := fun r w' => r = (stS F t place slot x s).1.dn ∧ IsMem Q w' w0 w' gm dv pv (stS F t place slot x s).2 ∧ Blk w' g 203 ((stS F t place slot x s).1.cells gl t place slot) ∧ ∀ b, Q b → b ≠ g → w'.heap[b]? = w.heap[b]?) ?_).mono ?_
    · refine (stStep_ok (hm.ext e0).here hc hi fine ok hs (hx.st _ _ rfl) h21 (h.blk.ext e0) (hl.ext e0) qp ql nlp p0).mono ?_
      rintro e w1 ⟨rfl, m1, b1, k1⟩
      exact ⟨_, rfl, rfl, m1, b1, fun b hb hn => (k1 b hb hn).trans (e0.block b (hm.lt.2 b hb))⟩
    · rintro e w1 ⟨r, rfl, rfl, m1, b1, k1⟩
      exact ⟨0, rfl, ⟨m1.reQ (fun b hb => hb.elim id (fun ⟨q, e, _⟩ => by cases e)), b1, fun q e => by cases e⟩, k1⟩
  | rc g x =>
    have e0 := (Ext.refl w).alloc (.cells #[.pointer none, .pointer none, .pointer none, .pointer (some ⟨g, 0, none⟩)] 41)
    have hr : RcAt Q w0 w gm g gl dv pv t x s := ⟨h.mem, h.blk, h.push⟩
    have hr2 : RcAt Q w0 (w.alloc (.cells #[.pointer none, .pointer none, .pointer none, .pointer (some ⟨g, 0, none⟩)] 41)) gm g gl dv pv t x s := ⟨(h.mem.ext e0).here, h.blk.ext e0, fun q hq => ⟨(h.push q hq).1, (h.push q hq).2.ext e0⟩⟩
    refine (m11step_3 w g gm (P := fun r w' => ∃ gn, r = (rcS F t x s gn).1.dn ∧ RcAt Q w0 w' gm g gl dv pv t (rcS F t x s gn).1 (rcS F t x s gn).2 ∧ ∀ b, Q b → b ≠ g → w'.heap[b]? = w.heap[b]?) ?_).mono ?_
    · refine (rcStep_ok hr2 hc ok h21 h22 (hx.rc _ _ rfl) hL hL5 (hl.ext e0) qp ql nlp p0).mono ?_
      rintro e w1 ⟨gn, rfl, m1, k1⟩
      exact ⟨_, rfl, gn, rfl, m1, fun b hb hn => (k1 b hb hn).trans (e0.block b (hm.lt.2 b hb))⟩
    · rintro e w1 ⟨r, rfl, gn, rfl, m1, k1⟩
      exact ⟨gn, rfl, ⟨m1.mem, m1.blk, m1.push⟩, k1⟩
/-- **WHAT THEY TELL IS THE DOCUMENT'S.** -/
theorem m11same_ok {gq : Nat} {r : R11} {t' s' l b : Int} {L : Int} (hb : Blk w m.g m.ty (m.cells gl t place slot)) (hl : Blk w gl 173 (cellsF F)) (hL : F 2 = L) (hq : Blk w gq 55 (r.cells t' s' l b t)) (hr : Rel11 L place slot m r) :
    Calls Tryz.prog 15 #[.agg #[.pointer m.p0, .pointer m.p1, .pointer m.p2, .pointer m.p3], .pointer (some ⟨gq, 0, none⟩)] w fun e w' => e = .returned (.bool true) ∧ Ext w w' := by
  have eh := hr.holdsE
  have ec := hr.countE
  have ep := hr.placeE
  have eb := hr.lineB
  obtain ⟨kind, line, n, sl, plc, now, holds, count, push⟩ := r
  simp only at eh ec ep eb
  have y5 : w.cell? ⟨gq, 5, none⟩ = some (.int .i64 kind) := hq.cell 5
  have y6 : w.cell? ⟨gq, 6, none⟩ = some (.int .i64 line) := hq.cell 6
  have y9 : w.cell? ⟨gq, 9, none⟩ = some (.int .i64 plc) := hq.cell 9
  have y11 : w.cell? ⟨gq, 11, none⟩ = some (.int .i64 holds) := hq.cell 11
  have y12 : w.cell? ⟨gq, 12, none⟩ = some (.int .i64 count) := hq.cell 12
  cases m with
  | rv g x =>
    exact m11same_gen w _ _ _ _ gq x.dn true true true (x.tells L) 0 0 kind line plc holds count
      (fun W e => (doneReserve_ok W g _ ((hb.ext e).cell 2)).mono (by rintro e w' ⟨rfl, rfl⟩; exact ⟨rfl, Ext.refl _⟩))
      (fun W e => (doneCancel_nil W).mono (by rintro e w' ⟨rfl, rfl⟩; exact ⟨rfl, Ext.refl _⟩))
      (fun W e => (doneStamp_nil W).mono (by rintro e w' ⟨rfl, rfl⟩; exact ⟨rfl, Ext.refl _⟩))
      (fun W e => (doneReclaim_nil W).mono (by rintro e w' ⟨rfl, rfl⟩; exact ⟨rfl, Ext.refl _⟩))
      (fun W e => (place_ok W g gl x t slot (hb.ext e) (hl.ext e)).mono (by rintro e w' ⟨rfl, x1⟩; exact ⟨by rw [hL], x1⟩))
      (fun W e => (holds_nil W).mono (by rintro e w' ⟨rfl, rfl⟩; exact ⟨by rw [eh]; rfl, Ext.refl _⟩))
      (fun W e => (count_nil W).mono (by rintro e w' ⟨rfl, rfl⟩; exact ⟨by rw [ec]; rfl, Ext.refl _⟩))
      y5 y6 y9 y11 y12 (by rw [eb]; show x.dn = _; cases x.dn <;> rfl) ep
  | cn g d =>
    exact m11same_gen w _ _ _ _ gq true d true true (-1) 0 0 kind line plc holds count
      (fun W e => (doneReserve_nil W).mono (by rintro e w' ⟨rfl, rfl⟩; exact ⟨rfl, Ext.refl _⟩))
      (fun W e => (doneCancel_ok W g _ ((hb.ext e).cell 2)).mono (by rintro e w' ⟨rfl, rfl⟩; exact ⟨rfl, Ext.refl _⟩))
      (fun W e => (doneStamp_nil W).mono (by rintro e w' ⟨rfl, rfl⟩; exact ⟨rfl, Ext.refl _⟩))
      (fun W e => (doneReclaim_nil W).mono (by rintro e w' ⟨rfl, rfl⟩; exact ⟨rfl, Ext.refl _⟩))
      (fun W e => (place_nil W).mono (by rintro e w' ⟨rfl, x1⟩; exact ⟨rfl, x1⟩))
      (fun W e => (holds_nil W).mono (by rintro e w' ⟨rfl, rfl⟩; exact ⟨by rw [eh]; rfl, Ext.refl _⟩))
      (fun W e => (count_nil W).mono (by rintro e w' ⟨rfl, rfl⟩; exact ⟨by rw [ec]; rfl, Ext.refl _⟩))
      y5 y6 y9 y11 y12 (by rw [eb]; show d = _; cases d <;> rfl) ep
  | st g x =>
    exact m11same_gen w _ _ _ _ gq true true x.dn true (-1) 0 0 kind line plc holds count
      (fun W e => (doneReserve_nil W).mono (by rintro e w' ⟨rfl, rfl⟩; exact ⟨rfl, Ext.refl _⟩))
      (fun W e => (doneCancel_nil W).mono (by rintro e w' ⟨rfl, rfl⟩; exact ⟨rfl, Ext.refl _⟩))
      (fun W e => (doneStamp_ok W g _ ((hb.ext e).cell 2)).mono (by rintro e w' ⟨rfl, rfl⟩; exact ⟨rfl, Ext.refl _⟩))
      (fun W e => (doneReclaim_nil W).mono (by rintro e w' ⟨rfl, rfl⟩; exact ⟨rfl, Ext.refl _⟩))
      (fun W e => (place_nil W).mono (by rintro e w' ⟨rfl, x1⟩; exact ⟨rfl, x1⟩))
      (fun W e => (holds_nil W).mono (by rintro e w' ⟨rfl, rfl⟩; exact ⟨by rw [eh]; rfl, Ext.refl _⟩))
      (fun W e => (count_nil W).mono (by rintro e w' ⟨rfl, rfl⟩; exact ⟨by rw [ec]; rfl, Ext.refl _⟩))
      y5 y6 y9 y11 y12 (by rw [eb]; show x.dn = _; cases x.dn <;> rfl) ep
  | rc g x =>
    exact m11same_gen w _ _ _ _ gq true true true x.dn (-1) 0 0 kind line plc holds count
      (fun W e => (doneReserve_nil W).mono (by rintro e w' ⟨rfl, rfl⟩; exact ⟨rfl, Ext.refl _⟩))
      (fun W e => (doneCancel_nil W).mono (by rintro e w' ⟨rfl, rfl⟩; exact ⟨rfl, Ext.refl _⟩))
      (fun W e => (doneStamp_nil W).mono (by rintro e w' ⟨rfl, rfl⟩; exact ⟨rfl, Ext.refl _⟩))
      (fun W e => (doneReclaim_ok W g _ ((hb.ext e).cell 2)).mono (by rintro e w' ⟨rfl, rfl⟩; exact ⟨rfl, Ext.refl _⟩))
      (fun W e => (place_nil W).mono (by rintro e w' ⟨rfl, x1⟩; exact ⟨rfl, x1⟩))
      (fun W e => (holds_ok W g gl x t (hb.ext e)).mono (by rintro e w' ⟨rfl, x1⟩; exact ⟨by rw [eh]; rfl, by first | exact x1 | (rw [← x1]; exact Ext.refl _)⟩))
      (fun W e => (count_ok W g gl x t (hb.ext e)).mono (by rintro e w' ⟨rfl, x1⟩; exact ⟨by rw [ec]; rfl, by first | exact x1 | (rw [← x1]; exact Ext.refl _)⟩))
      y5 y6 y9 y11 y12 (by rw [eb]; show x.dn = _; cases x.dn <;> rfl) ep
end
theorem M11.S_fine {k gn : Nat} {F : Nat → Int} {t place slot : Int} {m : M11} {s : MSt} (hf : Fine k s.dev) (hk : k ≤ 90) : Fine (k + 1) (m.S F t place slot s gn).2.dev := by
  cases m with
  | rv g x => exact rvS_fine hf hk
  | cn g d =>
    show Fine (k + 1) (cnS F t place d s).dev
    unfold cnS
    split
    · exact hf.up
    · exact act_fine hf hk 2 t (logN F t place) 0 0
  | st g x =>
    show Fine (k + 1) (stS F t place slot x s).2.dev
    unfold stS
    repeat' split
    · exact hf.up
    · exact act_fine hf hk 1 t (-1) 0 0
    · exact act_fine hf hk 2 t (logN F t place) 0 (entN slot (IntKind.i64.wrap x.ep))
    · exact act_fine hf hk 4 t (logN F t place) 0 0
    · exact act_fine hf hk 5 t 0 0 0
  | rc g x =>
    show Fine (k + 1) (rcS F t x s gn).2.dev
    unfold rcS
    split
    · exact hf.up
    split
    · exact act_fine hf hk 1 t (-1) 0 0
    split
    · exact act_fine hf hk 1 t (logN F t x.place) 0 0
    split
    · exact act_fine hf hk 2 t (logN F t x.place) 0 0
    split
    · exact hf.up
    · exact pushS_fine hf hk
theorem M11.S_calm {L gn : Nat} {n : Int} {F : Nat → Int} {t place slot : Int} {m : M11} {s : MSt} (hL : F 2 = (L : Int)) (h0L : 0 < L) (hU : ∀ a, W64 (peekV s a)) (hx : m.Wf (L : Int)) (hc : CalmN n s) : CalmN (n + 1) (m.S F t place slot s gn).2 := by
  cases m with
  | rv g x => exact rvS_calm hc
  | cn g d =>
    show CalmN (n + 1) (cnS F t place d s)
    unfold cnS
    split
    · exact CalmN.mono hc (by omega)
    · exact act_calm hc 2 t (logN F t place) 0 0
  | st g x =>
    show CalmN (n + 1) (stS F t place slot x s).2
    unfold stS
    repeat' split
    · exact CalmN.mono hc (by omega)
    · exact act_calm hc 1 t (-1) 0 0
    · exact act_calm hc 2 t (logN F t place) 0 (entN slot (IntKind.i64.wrap x.ep))
    · exact act_calm hc 4 t (logN F t place) 0 0
    · exact act_calm hc 5 t 0 0 0
  | rc g x => exact (rcS_wf hL h0L hU (hx.rc _ _ rfl) hc).2
theorem Rel11.new {L : Nat} (h : 0 < L) (kd place slot : Int) (g : Nat) : Rel11 (L : Int) place slot (newM11 kd g) (r11new kd place slot) := by
  unfold newM11 r11new
  by_cases h0 : kd = 0
  · rw [if_pos h0, if_pos h0]
    exact ⟨RvM.wf0 (by omega), rfl, rfl, rfl, rfl, rfl, rfl, rfl⟩
  rw [if_neg h0, if_neg h0]
  by_cases h1 : kd = 1
  · rw [if_pos h1, if_pos h1]
    exact ⟨rfl, rfl, rfl, rfl, rfl⟩
  rw [if_neg h1, if_neg h1]
  by_cases h2 : kd = 2
  · rw [if_pos h2, if_pos h2]
    exact ⟨⟨Or.inl (Or.inl rfl), w64_0⟩, rfl, rfl, rfl, rfl, rfl, rfl, rfl⟩
  · rw [if_neg h2, if_neg h2]
    exact ⟨RcM.wf0 (by omega), rfl, rfl, rfl, rfl, rfl, rfl, fun _ hh => hh.elim (fun (e : (0 : Int) = 2) => absurd e (by decide)) (fun (e : (0 : Int) = 3) => absurd e (by decide)), fun q e => (by cases e)⟩
theorem Rel11.r11wf {L place slot : Int} {m : M11} {r : R11} (hp : I64 slot) (h : Rel11 L place slot m r) (hs : I64 r.slot) (hnw : W64 r.now) : r.Wf L := by
  have key : ∀ (d : Bool) (p : Int), ((p = 0 ∨ p = 1 ∨ p = 2 ∨ p = 3) ∨ d = true) → ((if d = true then (0 : Int) else p + 1) = 0 ∨ (if d = true then (0 : Int) else p + 1) = 1 ∨ (if d = true then (0 : Int) else p + 1) = 2 ∨ (if d = true then (0 : Int) else p + 1) = 3 ∨ (if d = true then (0 : Int) else p + 1) = 4) := by
    intro d p hp
    cases d
    · rw [if_neg (by decide)]
      rcases hp with hp | hp
      · omega
      · cases hp
    · exact Or.inl rfl
  have dnf : ∀ (d : Bool) (p : Int), ¬ (if d = true then (0 : Int) else p + 1) = 0 → d = false := by
    intro d p h
    cases d
    · rfl
    · exact absurd rfl h
  cases m with
  | rv g x =>
    obtain ⟨h1, h2, h3, h4, h5, h6, h7, h8⟩ := h
    refine ⟨Or.inl h2, by rw [h5]; exact key _ _ h1.part, fun e => by rw [h2] at e; exact absurd e (by decide), fun _ hl => ?_, hs, hnw, fun e => by rw [h2] at e; exact absurd e (by decide), fun e => by rw [h2] at e; exact absurd e (by decide)⟩
    rw [h5] at hl
    rw [h3]
    exact ⟨h1.place.1, h1.lt (dnf _ _ hl)⟩
  | cn g d =>
    obtain ⟨h2, h3, h5, h7, h8⟩ := h
    refine ⟨Or.inr (Or.inl h2), by rw [h5]; cases d; exact Or.inr (Or.inl rfl); exact Or.inl rfl, fun _ hl => ?_, fun e => by rw [h2] at e; exact absurd e (by decide), hs, hnw, fun e => by rw [h2] at e; exact absurd e (by decide), fun e => by rw [h2] at e; exact absurd e (by decide)⟩
    rw [h5] at hl ⊢
    cases d
    · rfl
    · exact absurd rfl hl
  | st g x =>
    obtain ⟨h1, h2, h3, h4, h6, h5, h7, h8⟩ := h
    exact ⟨Or.inr (Or.inr (Or.inl h2)), by rw [h5]; exact key _ _ h1.part, fun e => by rw [h2] at e; exact absurd e (by decide), fun e => by rw [h2] at e; exact absurd e (by decide), hs, hnw, fun e => by rw [h2] at e; exact absurd e (by decide), fun e => by rw [h2] at e; exact absurd e (by decide)⟩
  | rc g x =>
    obtain ⟨h1, h2, h3, h4, h5, h6, h7, h8, h9⟩ := h
    refine ⟨Or.inr (Or.inr (Or.inr h2)), by rw [h5]; exact key _ _ h1.wf.part, fun e => by rw [h2] at e; exact absurd e (by decide), fun _ hl => ?_, hs, hnw, fun _ hl => ?_, fun _ hl => ?_⟩
    · rw [h5] at hl
      rw [h3]
      exact ⟨h1.wf.place.1, h1.wf.lt (dnf _ _ hl)⟩
    · rw [h7, h3]
      exact h1.wf.count
    · rw [h5] at hl
      have hd : x.dn = false := dnf x.dn x.part (by rw [hl]; decide)
      rw [hd, if_neg (by decide)] at hl
      obtain ⟨gq, y, e, hy, _⟩ := h1.wf.hpush hd (by omega)
      obtain ⟨p, e2, hrel⟩ := h9 _ e
      exact ⟨p, e2, hrel.rw⟩
theorem r11S_rng {F : Nat → Int} {tn : Int} {x : R11} {s : MSt} (hU : ∀ a, W64 (peekV s a)) (hs : I64 x.slot) (hn : W64 x.now) : I64 (r11S F tn x s).1.slot ∧ W64 (r11S F tn x s).1.now := by
  unfold r11S r11a r11b R11.on R11.at
  repeat' split
  all_goals first
    | exact ⟨hs, hn⟩
    | exact ⟨hs, hU (-1)⟩
    | exact ⟨⟨by have := toN_rng (hU (logN F tn x.n)); show -9223372036854775808 ≤ toN (peekV s (logN F tn x.n)); omega, by have := toN_rng (hU (logN F tn x.n)); show toN (peekV s (logN F tn x.n)) < 9223372036854775808; omega⟩, hn⟩
theorem r11new_rng {kd place slot : Int} (hs : I64 slot) : I64 (r11new kd place slot).slot ∧ W64 (r11new kd place slot).now := by
  unfold r11new
  repeat' split
  all_goals exact ⟨hs, w64_0⟩
theorem newM11_g (kd : Int) (g : Nat) : (newM11 kd g).g = g := by
  unfold newM11
  repeat' split
  all_goals rfl
theorem newM11_push (kd : Int) (g : Nat) : (newM11 kd g).push = none := by
  unfold newM11
  repeat' split
  all_goals rfl
end Go.Proofs.YtbicloceaddinaaGreat

