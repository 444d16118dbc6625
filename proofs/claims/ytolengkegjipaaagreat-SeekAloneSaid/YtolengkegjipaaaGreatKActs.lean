/- Acts that came in, read; what is done to no device. Conditions: those that each theorem names. -/
import Derived.Test.YtolengkegjipaaaGreatKDevB
import Derived.Test.YtolengkegjipaaaGreatViews
import Derived.Test.YtolengkegjipaaaGreatKDevC
namespace Go.Proofs.YtolengkegjipaaaGreat
open Go.ChangeShapes Go.WideShapes Go.ChangeAt Go.RowKit Go.Deep
set_option linter.unusedVariables false
section
variable {H : Type} {enc : TypeId × Value → H} {P : Program}
end
end Go.Proofs.YtolengkegjipaaaGreat


/- Acts on a device: each call for any numbers, and limekilnlaw04.do. Conditions: those that each theorem names. -/
namespace Go.Proofs.YtolengkegjipaaaGreat
open Go.ChangeShapes Go.WideShapes Go.ChangeAt Go.RowKit
set_option linter.unusedVariables false
/-- A device's state behind some acts. -/
structure Fine (i : Nat) (s : DSt) : Prop where
  srt : ∀ t, (s.fl.getD t []).Pairwise (· < ·)
  rng : ∀ t, ∀ x ∈ s.fl.getD t [], 0 ≤ x ∧ x < (s.n : Int)
  len : ∀ t, (s.fl.getD t []).length ≤ i
  few : Few s.writes (100 * i + 1)
theorem Fine.le {i : Nat} {s : DSt} (h : Fine i s) (t : Nat) : (s.fl.getD t []).Pairwise (· ≤ ·) := (h.srt t).imp fun hab => by omega
def DSt.flush (s : DSt) (t l : Int) : DSt := if 0 ≤ t ∧ t < s.T ∧ 0 ≤ l ∧ l < s.n then { s with fl := s.fl.set t.toNat (setAdd (s.fl.getD t.toNat []) l) } else s
def DSt.fence (s : DSt) (t : Int) : DSt := if 0 ≤ t ∧ t < s.T then { s.backs (s.fl.getD t.toNat []) with fl := s.fl.set t.toNat [] } else s
def DSt.evict (s : DSt) (l : Int) : DSt := if 0 ≤ l ∧ l < s.n then s.back l.toNat else s
def DSt.store (s : DSt) (a x : Int) : DSt := if 0 ≤ a ∧ a < (s.n : Int) * 8 then { s with seen := s.seen.set a.toNat x } else s
def flushE (s : DSt) (t l : Int) : Int := if 0 ≤ t ∧ t < s.T then (if 0 ≤ l ∧ l < s.n then 0 else 5) else 1
def fenceE (s : DSt) (t : Int) : Int := if 0 ≤ t ∧ t < s.T then 0 else 1
def wordE (s : DSt) (a : Int) : Int := if 0 ≤ a ∧ a < (s.n : Int) * 8 then 0 else 5
def loadV (s : DSt) (a : Int) : Int := if 0 ≤ a ∧ a < (s.n : Int) * 8 then s.seen.getD a.toNat 0 else 0
section
variable {Q : Nat → Prop} {wb w0 w : World} {v : Value} {s : DSt}
theorem AtQ.ext {w' : World} (h : AtQ Q wb w0 w v s) (x : Ext w w') : AtQ Q wb w0 w' v s := by
  obtain ⟨D, rfl, h, e, hQ⟩ := h
  exact ⟨D, rfl, h.ext x, e.trans x, AtQ.off hQ (Fr.of_ext x) (fun g hg => Or.inl hg)⟩
theorem AtQ.flush (h : AtQ Q wb w0 w v s) {i : Nat} (hi : i ≤ 1000) (ok : Fine i s) (t l : Int) :
    Calls Tryz.prog 115 #[v, .int .i64 t, .int .i64 l] w fun e w' => e = .returned (.int .i64 (flushE s t l)) ∧ AtQ Q wb w0 w' v (s.flush t l) := by
  have h' := h
  obtain ⟨D, rfl, h, ext, hQ⟩ := h
  by_cases ht : 0 ≤ t ∧ t < (s.T : Int)
  · obtain ⟨tn, rfl⟩ := Int.eq_ofNat_of_zero_le ht.1
    have ht2 : tn < s.T := by omega
    by_cases hl : 0 ≤ l ∧ l < (s.n : Int)
    · obtain ⟨ln, rfl⟩ := Int.eq_ofNat_of_zero_le hl.1
      have e1 : s.flush (tn : Int) (ln : Int) = { s with fl := s.fl.set tn (setAdd (s.fl.getD tn []) (ln : Int)) } := by
        unfold DSt.flush; rw [if_pos ⟨ht.1, ht.2, hl.1, hl.2⟩]; rfl
      have e2 : flushE s (tn : Int) (ln : Int) = 0 := by unfold flushE; rw [if_pos ht, if_pos hl]
      rw [e1, e2]
      exact (flush_ok w0 w D s ext h tn ln ht2 (by omega) (by have := ok.len tn; omega) (ok.le tn)).mono fun _ _ b => AtQ.back h ext hQ b
    · have e1 : s.flush (tn : Int) l = s := by unfold DSt.flush; rw [if_neg (fun c => hl ⟨c.2.2.1, c.2.2.2⟩)]
      have e2 : flushE s (tn : Int) l = 5 := by unfold flushE; rw [if_pos ht, if_neg hl]
      rw [e1, e2]
      refine (flush_line _ w D s h tn l ht2 (by omega)).mono ?_
      rintro e w' ⟨he, rfl⟩
      exact ⟨he, h'⟩
  · have e1 : s.flush t l = s := by unfold DSt.flush; rw [if_neg (fun c => ht ⟨c.1, c.2.1⟩)]
    have e2 : flushE s t l = 1 := by unfold flushE; rw [if_neg ht]
    rw [e1, e2]
    refine (flush_thread _ w D s h t l (by omega)).mono ?_
    rintro e w' ⟨he, rfl⟩
    exact ⟨he, h'⟩
theorem AtQ.fenceA (h : AtQ Q wb w0 w v s) {i : Nat} (hi : i ≤ 1000) (ok : Fine i s) (t : Int) :
    Calls Tryz.prog 118 #[v, .int .i64 t] w fun e w' => e = .returned (.int .i64 (fenceE s t)) ∧ AtQ Q wb w0 w' v (s.fence t) := by
  have h' := h
  obtain ⟨D, rfl, h, ext, hQ⟩ := h
  by_cases ht : 0 ≤ t ∧ t < (s.T : Int)
  · obtain ⟨tn, rfl⟩ := Int.eq_ofNat_of_zero_le ht.1
    have e1 : s.fence (tn : Int) = { s.backs (s.fl.getD tn []) with fl := s.fl.set tn [] } := by unfold DSt.fence; rw [if_pos ht]; rfl
    have e2 : fenceE s (tn : Int) = 0 := by unfold fenceE; rw [if_pos ht]
    rw [e1, e2]
    exact h'.fence tn (by omega) (ok.few.mono (by omega)) (by have := ok.len tn; omega) (ok.rng tn)
  · have e1 : s.fence t = s := by unfold DSt.fence; rw [if_neg ht]
    have e2 : fenceE s t = 1 := by unfold fenceE; rw [if_neg ht]
    rw [e1, e2]
    refine (fence_no _ w D s h t (by omega)).mono ?_
    rintro e w' ⟨he, rfl⟩
    exact ⟨he, h'⟩
theorem AtQ.storeA (h : AtQ Q wb w0 w v s) (a x : Int) (hx : 0 ≤ x ∧ x < 18446744073709551616) :
    Calls Tryz.prog 71 #[v, .int .i64 a, .int .u64 x] w fun e w' => e = .returned (.int .i64 (wordE s a)) ∧ AtQ Q wb w0 w' v (s.store a x) := by
  have h' := h
  obtain ⟨D, rfl, h, ext, hQ⟩ := h
  by_cases ha : 0 ≤ a ∧ a < (s.n : Int) * 8
  · obtain ⟨an, rfl⟩ := Int.eq_ofNat_of_zero_le ha.1
    have e1 : s.store (an : Int) x = { s with seen := s.seen.set an x } := by unfold DSt.store; rw [if_pos ha]; rfl
    have e2 : wordE s (an : Int) = 0 := by unfold wordE; rw [if_pos ha]
    rw [e1, e2]
    exact h'.store an (by omega) x hx
  · have e1 : s.store a x = s := by unfold DSt.store; rw [if_neg ha]
    have e2 : wordE s a = 5 := by unfold wordE; rw [if_neg ha]
    rw [e1, e2]
    refine (store_no _ w D s h a x (by omega)).mono ?_
    rintro e w' ⟨he, rfl⟩
    exact ⟨he, h'⟩
end
/-- A device's state behind an act, and what the act tells. -/
def DSt.act (s : DSt) (k t l a x : Int) : DSt := if k = 0 then s.flush t l else if k = 1 then s.fence t else if k = 2 then s.evict l else if k = 3 then s.crashed else if k = 4 then s else s.store a x
end Go.Proofs.YtolengkegjipaaaGreat

