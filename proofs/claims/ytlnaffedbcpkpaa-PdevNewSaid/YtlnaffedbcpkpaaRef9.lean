/- The document's device: its acts over the state of the program's. Conditions: those that each theorem names. -/
import Derived.Test.YtlnaffedbcpkpaaRef5
import Derived.Test.YtlnaffedbcpkpaaRef7
import Derived.Test.YtlnaffedbcpkpaaRef8
namespace Go.Proofs.Ytlnaffedbcpkpaa
open Go.ChangeShapes Go.WideShapes Go.ChangeAt Go.RowKit
set_option linter.unusedVariables false
theorem setAdd_has (l : List Int) (x y : Int) : y ∈ setAdd l x ↔ y = x ∨ y ∈ l := by
  unfold setAdd
  by_cases h : l.contains x = true
  · rw [if_pos h]
    have hx : x ∈ l := by simpa using h
    exact ⟨Or.inr, fun h => h.elim (fun e => e ▸ hx) id⟩
  · rw [if_neg h]
    unfold insAt
    constructor
    · intro hy
      simp only [List.mem_append, List.mem_cons] at hy
      rcases hy with h1 | h1 | h1
      · exact Or.inr (List.mem_of_mem_take h1)
      · exact Or.inl h1
      · exact Or.inr (List.mem_of_mem_drop h1)
    · intro hy
      simp only [List.mem_append, List.mem_cons]
      rcases hy with h1 | h1
      · exact Or.inr (Or.inl h1)
      · rw [← List.take_append_drop (l.countP (· < x)) l] at h1
        rcases List.mem_append.1 h1 with h2 | h2
        · exact Or.inl h2
        · exact Or.inr (Or.inr h2)
theorem set_fl {l : List (List Int)} {t a : Nat} {x : List Int} (ht : t < l.length) : (l.set t x).getD a [] = if a = t then x else l.getD a [] := by
  rw [List.getD_eq_getElem?_getD, List.getD_eq_getElem?_getD, List.getElem?_set]
  by_cases h : t = a
  · subst h; simp [ht]
  · rw [if_neg h, if_neg (fun e => h e.symm)]
section
variable {B i : Nat} {w : World} {R : RefB} {s : DSt}
/-- What the acts ask for. -/
structure Sound (s : DSt) : Prop where
  n0 : 0 < s.n
  n1 : s.n ≤ 262144
  T0 : 0 < s.T
  T1 : s.T ≤ 64
  lf : s.fl.length = s.T
theorem RefAt.big (h : RefAt B w R s) : Big s := ⟨h.lk, h.ls⟩
theorem RefAt.flushR (h : RefAt B w R s) (ok : Sound s) (t l : Int) :
    Calls Try.prog 46 #[R.ptr, .int .i64 0, .int .i64 t, .int .i64 l] w fun e w' => e = .returned (.int .i64 (flushE s t l)) ∧ RefAt B w' R (s.flush t l) ∧ Fr R.foot w w' := by
  by_cases ht : 0 ≤ t ∧ t < (s.T : Int)
  · by_cases hl : 0 ≤ l ∧ l < (s.n : Int)
    · obtain ⟨tn, rfl⟩ := Int.eq_ofNat_of_zero_le ht.1
      obtain ⟨ln, rfl⟩ := Int.eq_ofNat_of_zero_le hl.1
      have e1 : s.flush (tn : Int) (ln : Int) = { s with fl := s.fl.set tn (setAdd (s.fl.getD tn []) (ln : Int)) } := by
        unfold DSt.flush; rw [if_pos ⟨ht.1, ht.2, hl.1, hl.2⟩]; rfl
      have e2 : flushE s (tn : Int) (ln : Int) = 0 := by unfold flushE; rw [if_pos ht, if_pos hl]
      rw [e1, e2]
      refine (refDo_flush h ok.n0 ok.n1 ok.T0 ok.T1 tn ln (by omega) (by omega)).mono ?_
      rintro e w' ⟨he, h1, f⟩
      refine ⟨he, ⟨h1.flagsTo (fun a q ha hq => ?_), h.lr, h.lk, h.ls⟩, f⟩
      unfold DSt.flag
      simp only
      rw [set_fl (by rw [ok.lf]; omega)]
      by_cases c : a = tn
      · subst c
        rw [if_pos rfl, Bool.eq_iff_iff, List.contains_iff_mem, setAdd_has]
        by_cases d : q = ln
        · subst d; simp
        · rw [if_neg (fun x => d x.2), List.contains_iff_mem]
          exact ⟨Or.inr, fun x => x.elim (fun y => absurd (by omega) d) id⟩
      · rw [if_neg c, if_neg (fun x => c x.1)]
    · have e1 : s.flush t l = s := by unfold DSt.flush; rw [if_neg (fun c => hl ⟨c.2.2.1, c.2.2.2⟩)]
      have e2 : flushE s t l = 5 := by unfold flushE; rw [if_pos ht, if_neg hl]
      rw [e1, e2]
      refine (refDo_line h ok.n0 ok.n1 ok.T0 ok.T1 0 t l (Or.inl ⟨rfl, ht.1, ht.2⟩) hl).mono ?_
      rintro e w' ⟨he, rfl⟩
      exact ⟨he, h, Fr.refl _ _⟩
  · have e1 : s.flush t l = s := by unfold DSt.flush; rw [if_neg (fun c => ht ⟨c.1, c.2.1⟩)]
    have e2 : flushE s t l = 1 := by unfold flushE; rw [if_neg ht]
    rw [e1, e2]
    refine (refDo_thread h ok.n0 ok.T0 ok.T1 0 t l (Or.inl rfl) ht).mono ?_
    rintro e w' ⟨he, rfl⟩
    exact ⟨he, h, Fr.refl _ _⟩
theorem RefAt.fenceR (h : RefAt B w R s) (ok : Sound s) (hi : i ≤ 1000) (fine : Fine i s) (t l : Int) :
    Calls Try.prog 46 #[R.ptr, .int .i64 1, .int .i64 t, .int .i64 l] w fun e w' => e = .returned (.int .i64 (fenceE s t)) ∧ RefAt B w' R (s.fence t) ∧ Fr R.foot w w' := by
  by_cases ht : 0 ≤ t ∧ t < (s.T : Int)
  · obtain ⟨tn, rfl⟩ := Int.eq_ofNat_of_zero_le ht.1
    have e1 : s.fence (tn : Int) = { s.backs (s.fl.getD tn []) with fl := s.fl.set tn [] } := by unfold DSt.fence; rw [if_pos ht]; rfl
    have e2 : fenceE s (tn : Int) = 0 := by unfold fenceE; rw [if_pos ht]
    rw [e1, e2]
    obtain ⟨b1, b2, b3, b4⟩ := backs_sel (s.fl.getD tn []) s h.big h.is.wlen (fine.rng tn) ((fine.srt tn).imp fun hab => by omega)
    have b5 : (s.backs (s.fl.getD tn [])).T = s.T := backs_T _ _
    refine (refDo_fence (L := s.n * 8) (T := s.T) h.is ok.n0 ok.n1 rfl h.lk h.ls h.lr ok.T0 ok.T1 (fun p => by have := fine.few p; omega) tn l (by rw [h.lr]; omega)).mono ?_
    rintro e w' ⟨he, h1, f⟩
    refine ⟨he, ⟨?_, ?_, ?_, ?_⟩, f⟩
    · simp only
      rw [b4, b1, b2, b3]
      refine h1.flagsTo (fun a q ha hq => ?_)
      unfold flagsOut DSt.flag
      simp only
      rw [set_fl (by rw [ok.lf]; omega)]
      by_cases c : a = tn
      · subst c; simp
      · simp [c]
    · simp only; rw [b5]; exact h.lr
    · simp only; rw [b1, b4, sel_len]
    · simp only; rw [b3, b4]; exact h.ls
  · have e1 : s.fence t = s := by unfold DSt.fence; rw [if_neg ht]
    have e2 : fenceE s t = 1 := by unfold fenceE; rw [if_neg ht]
    rw [e1, e2]
    refine (refDo_thread h ok.n0 ok.T0 ok.T1 1 t l (Or.inr rfl) ht).mono ?_
    rintro e w' ⟨he, rfl⟩
    exact ⟨he, h, Fr.refl _ _⟩
theorem RefAt.evictR (h : RefAt B w R s) (ok : Sound s) (hi : i ≤ 1000) (fine : Fine i s) (t l : Int) :
    Calls Try.prog 46 #[R.ptr, .int .i64 2, .int .i64 t, .int .i64 l] w fun e w' => e = .returned (.int .i64 (evictE s l)) ∧ RefAt B w' R (s.evict l) ∧ Fr R.foot w w' := by
  by_cases hl : 0 ≤ l ∧ l < (s.n : Int)
  · obtain ⟨ln, rfl⟩ := Int.eq_ofNat_of_zero_le hl.1
    have e1 : s.evict (ln : Int) = s.back ln := by unfold DSt.evict; rw [if_pos hl]; rfl
    have e2 : evictE s (ln : Int) = 0 := by unfold evictE; rw [if_pos hl]
    rw [e1, e2]
    obtain ⟨b1, b2⟩ := back_sel h.big h.is.wlen ln (by omega)
    refine (refDo_evict (L := s.n * 8) (T := s.T) h.is ok.n0 ok.n1 rfl h.lk h.ls h.lr ok.T0 ok.T1 (fun p => by have := fine.few p; omega) t ln (by omega)).mono ?_
    rintro e w' ⟨he, h1, f⟩
    refine ⟨he, ⟨?_, h.lr, ?_, h.ls⟩, f⟩
    · rw [b1, b2]
      refine h1.flagsTo (fun a q ha hq => ?_)
      unfold flagsOut
      rfl
    · rw [b1, sel_len]; rfl
  · have e1 : s.evict l = s := by unfold DSt.evict; rw [if_neg hl]
    have e2 : evictE s l = 5 := by unfold evictE; rw [if_neg hl]
    rw [e1, e2]
    refine (refDo_line h ok.n0 ok.n1 ok.T0 ok.T1 2 t l (Or.inr rfl) hl).mono ?_
    rintro e w' ⟨he, rfl⟩
    exact ⟨he, h, Fr.refl _ _⟩
theorem RefAt.crashR (h : RefAt B w R s) (ok : Sound s) (hi : i ≤ 1000) (fine : Fine i s) (t l : Int) :
    Calls Try.prog 46 #[R.ptr, .int .i64 3, .int .i64 t, .int .i64 l] w fun e w' => e = .returned (.int .i64 0) ∧ RefAt B w' R s.crashed ∧ Fr R.foot w w' := by
  refine (refDo_crash (L := s.n * 8) (T := s.T) h.is ok.n0 ok.n1 rfl h.lk h.ls h.lr ok.T0 ok.T1 (fun p => by have := fine.few p; omega) t l).mono ?_
  rintro e w' ⟨he, h1, f⟩
  rw [sel_none h.lk (fun _ _ => rfl), add1_none h.is.wlen (fun _ _ => rfl)] at h1
  refine ⟨he, ⟨h1.flagsTo (fun a q ha hq => ?_), h.lr, h.lk, h.lk⟩, f⟩
  have e0 : (List.replicate s.T ([] : List Int)).getD a [] = [] := by
    rw [List.getD_eq_getElem?_getD, List.getElem?_replicate]
    split <;> rfl
  show false = ((List.replicate s.T ([] : List Int)).getD a []).contains (q : Int)
  rw [e0]
  rfl
end
end Go.Proofs.Ytlnaffedbcpkpaa
