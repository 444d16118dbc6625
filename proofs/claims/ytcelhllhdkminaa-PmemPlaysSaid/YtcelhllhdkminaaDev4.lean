/- Evict and Fence of the device. Conditions: those that each theorem names. -/
import Derived.Test.YtcelhllhdkminaaDev3
namespace Go.Proofs.Ytcelhllhdkminaa
open Go.ChangeShapes Go.WideShapes Go.ChangeAt Go.RowKit
set_option linter.unusedVariables false
/-- Counts of writes that are far from the ends of their type. -/
def Few (l : List Int) (m : Int) : Prop := ∀ p, -1 ≤ l.getD p 0 ∧ l.getD p 0 < m
theorem Few.set {l : List Int} {m : Int} (h : Few l m) (p : Nat) (x : Int) (hx : -1 ≤ x ∧ x < m + 1) : Few (l.set p x) (m + 1) := fun q => by
  by_cases e : q = p
  · subst e
    by_cases hq : q < l.length
    · rw [List.getD_eq_getElem?_getD, List.getElem?_set_self hq]; exact hx
    · rw [List.getD_eq_getElem?_getD, List.getElem?_eq_none (by simpa using hq)]
      have := h q
      rw [List.getD_eq_getElem?_getD, List.getElem?_eq_none (by omega)] at this
      simp at this ⊢
      omega
  · rw [List.getD_eq_getElem?_getD, List.getElem?_set_ne (fun h => e h.symm), ← List.getD_eq_getElem?_getD]
    have := h q
    omega
theorem Few.back {s : DSt} {m : Int} (h : Few s.writes m) (p : Nat) : Few (s.back p).writes (m + 1) := by
  refine h.set p _ ?_
  have := h p
  omega
theorem Few.mono {l : List Int} {m m' : Int} (h : Few l m) (hm : m ≤ m') : Few l m' := fun p => by have := h p; omega
/-- Lines written back, one behind the other. -/
def DSt.backs (s : DSt) (l : List Int) : DSt := l.foldl (fun s p => s.back p.toNat) s
theorem backs_snoc (s : DSt) (l : List Int) (x : Int) : s.backs (l ++ [x]) = (s.backs l).back x.toNat := by unfold DSt.backs; rw [List.foldl_append]; rfl
theorem backs_n (l : List Int) : ∀ s : DSt, (s.backs l).n = s.n := by
  induction l with
  | nil => intro s; rfl
  | cons a l ih => intro s; exact ih (s.back a.toNat)
theorem backs_T (l : List Int) : ∀ s : DSt, (s.backs l).T = s.T := by
  induction l with
  | nil => intro s; rfl
  | cons a l ih => intro s; exact ih (s.back a.toNat)
theorem backs_fl (l : List Int) : ∀ s : DSt, (s.backs l).fl = s.fl := by
  induction l with
  | nil => intro s; rfl
  | cons a l ih => intro s; exact ih (s.back a.toNat)
theorem backs_few (l : List Int) : ∀ (s : DSt) (m : Int), Few s.writes m → Few (s.backs l).writes (m + l.length) := by
  induction l with
  | nil => intro s m h; simpa [DSt.backs] using h
  | cons a l ih =>
    intro s m h
    have := ih (s.back a.toNat) (m + 1) (h.back a.toNat)
    rw [List.length_cons]
    exact this.mono (by omega)
section
variable {B : Nat} {w : World} {D : DevB} {s : DSt}
/-- A thread's set put anew: of a row of its own, or none. -/
theorem IsDev.putSet (h : IsDev B w D s) (t : Nat) (ht : t < s.T) (v : Value) (l : List Int) (hr : Row w B 3 .i64 v l) (hv : ∀ t' g, t' < s.T → t' ≠ t → v.ownBlock = some g → (D.its.getD t' undef).ownBlock ≠ some g) (hw : v.ownBlock ≠ some D.gw) :
    IsDev B (w.setCell ⟨D.gf, t, none⟩ v) { D with its := D.its.set t v } { s with fl := s.fl.set t l } where
  n0 := h.n0
  n1 := h.n1
  T0 := h.T0
  T1 := h.T1
  lits := by show (D.its.set t v).length = _; rw [List.length_set]; exact h.lits
  lfl := by show (s.fl.set t l).length = _; rw [List.length_set]; exact h.lfl
  bd := h.bd
  bf := h.bf
  dev := h.dev.far (p := ⟨D.gf, t, none⟩) (h.dev.ne h.flb (by decide)) _
  kept := h.kept.far (p := ⟨D.gf, t, none⟩) (h.flb.ne_row h.kept (by decide)) _
  seen := h.seen.far (p := ⟨D.gf, t, none⟩) (h.flb.ne_row h.seen (by decide)) _
  ks := h.ks
  flb := h.flb.set t v
  fl := fun t' ht' => by
    show Row _ B 3 .i64 ((D.its.set t v).getD t' undef) ((s.fl.set t l).getD t' [])
    by_cases e : t' = t
    · subst e
      rw [List.getD_eq_getElem?_getD, List.getElem?_set_self (by rw [h.lits]; exact ht), List.getD_eq_getElem?_getD, List.getElem?_set_self (by rw [h.lfl]; exact ht)]
      exact hr.far (p := ⟨D.gf, t', none⟩) (h.flb.ne_row (RowN.of_row hr) (by decide)) _
    · rw [List.getD_eq_getElem?_getD, List.getElem?_set_ne (fun h => e h.symm), ← List.getD_eq_getElem?_getD, List.getD_eq_getElem?_getD (l := s.fl.set t l), List.getElem?_set_ne (fun h => e h.symm), ← List.getD_eq_getElem?_getD]
      exact (h.fl t' ht').far (p := ⟨D.gf, t, none⟩) (h.flb.ne_row (RowN.of_row (h.fl t' ht')) (by decide)) _
  writes := h.writes.far (p := ⟨D.gf, t, none⟩) (h.flb.ne_row h.writes (by decide)) _
  apart := fun t1 t2 g h1 h2 hne hg => by
    have e1 : ∀ t', t' ≠ t → (D.its.set t v).getD t' undef = D.its.getD t' undef := fun t' e => by
      rw [List.getD_eq_getElem?_getD, List.getElem?_set_ne (fun h => e h.symm), ← List.getD_eq_getElem?_getD]
    have e2 : (D.its.set t v).getD t undef = v := by
      rw [List.getD_eq_getElem?_getD, List.getElem?_set_self (by rw [h.lits]; exact ht)]; rfl
    show ((D.its.set t v).getD t2 undef).ownBlock ≠ some g
    have hg' : ((D.its.set t v).getD t1 undef).ownBlock = some g := hg
    by_cases c1 : t1 = t
    · subst c1
      rw [e2] at hg'
      rw [e1 t2 (fun e => hne e.symm)]
      exact hv t2 g h2 (fun e => hne e.symm) hg'
    · rw [e1 t1 c1] at hg'
      by_cases c2 : t2 = t
      · subst c2
        rw [e2]
        intro hg2
        exact hv t1 g h1 c1 hg2 hg'
      · rw [e1 t2 c2]
        exact h.apart t1 t2 g h1 h2 hne hg'
  wapart := fun t' ht' => by
    show ((D.its.set t v).getD t' undef).ownBlock ≠ some D.gw
    by_cases e : t' = t
    · subst e
      rw [List.getD_eq_getElem?_getD, List.getElem?_set_self (by rw [h.lits]; exact ht)]
      exact hw
    · rw [List.getD_eq_getElem?_getD, List.getElem?_set_ne (fun h => e h.symm), ← List.getD_eq_getElem?_getD]
      exact h.wapart t' ht'
  lk := h.lk
  ls := h.ls
end
theorem foot_putSet {D : DevB} {t g : Nat} {v : Value} (hg : ({ D with its := D.its.set t v } : DevB).foot g) : D.foot g ∨ v.ownBlock = some g := by
  rcases hg with h | h | h | h | h | ⟨t', ht', h⟩
  · exact Or.inl (Or.inl h)
  · exact Or.inl (Or.inr (Or.inl h))
  · exact Or.inl (Or.inr (Or.inr (Or.inl h)))
  · exact Or.inl (Or.inr (Or.inr (Or.inr (Or.inl h))))
  · exact Or.inl (Or.inr (Or.inr (Or.inr (Or.inr (Or.inl h)))))
  · have ht2 : t' < D.its.length := by have : t' < (D.its.set t v).length := ht'; rwa [List.length_set] at this
    have h' : ((D.its.set t v).getD t' undef).ownBlock = some g := h
    by_cases e : t' = t
    · subst e
      rw [List.getD_eq_getElem?_getD, List.getElem?_set_self ht2] at h'
      exact Or.inr h'
    · rw [List.getD_eq_getElem?_getD, List.getElem?_set_ne (fun h => e h.symm), ← List.getD_eq_getElem?_getD] at h'
      exact Or.inl (Or.inr (Or.inr (Or.inr (Or.inr (Or.inr ⟨t', ht2, h'⟩)))))
set_option maxHeartbeats 400000 in
theorem evict_ok (B : Nat) (w : World) (D : DevB) (s : DSt) (h : IsDev B w D s) (p : Nat) (hp : p < s.n) (hw : Few s.writes 100000000000) :
    Calls Try.prog 44 #[D.ptr, .int .i64 (p : Int)] w (DevBack B w D (s.back p) (.returned (.int .i64 0))) := by
  unfold DevB.ptr
  have HC := Lib.hid (askL_ok _ _ _ _ (p : Int) (by omega) (by omega) w h.n1 h.c0)
  have HW := Lib.hid (writeBack_of B w D s h p hp (by have := hw p; omega))
  unfold DevB.ptr at HW
  clear hw
  go_enter Try.func44, Try.ntmps44
  go_wp2_with fail
  refine HC.out.mono ?_
  rintro e w' ⟨rfl, rfl⟩
  go_wp2_with fail
  refine HW.out.mono ?_
  rintro e w' ⟨⟨v, rfl⟩, hd, hf⟩
  go_wp2_with fail
  go_ret
  exact ⟨rfl, D, rfl, hd, hf, fun g hg => Or.inl hg⟩
set_option maxHeartbeats 400000 in
theorem evict_no (B : Nat) (w : World) (D : DevB) (s : DSt) (h : IsDev B w D s) (at_ : Int) (ha : at_ < 0 ∨ (s.n : Int) ≤ at_) :
    Calls Try.prog 44 #[D.ptr, .int .i64 at_] w fun e w' => e = .returned (.int .i64 5) ∧ w = w' := by
  unfold DevB.ptr
  have HC : Hid (Calls Try.prog 82 #[.pointer (some ⟨D.gd, 0, none⟩), .int .i64 at_] w fun e w' => e = .returned (.int .i64 5) ∧ w = w') := by
    rcases ha with ha | ha
    · exact Lib.hid (askL_lo _ _ _ _ at_ ha w h.n1 h.c0)
    · exact Lib.hid (askL_hi _ _ _ _ at_ (by omega) w h.n1 h.c0)
  clear ha
  go_enter Try.func44, Try.ntmps44
  go_wp2_with fail
  refine HC.out.mono ?_
  rintro e w' ⟨rfl, rfl⟩
  go_wp2_with fail
  go_ret
  exact ⟨rfl, rfl⟩
theorem evict_nil (at_ : Int) (w : World) :
    Calls Try.prog 44 #[.pointer none, .int .i64 at_] w fun e w' => e = .returned (.int .i64 1) ∧ w = w' := by
  go_enter Try.func44, Try.ntmps44
  go_wp2_with fail
  refine (askL_nil _ _).mono ?_
  rintro e w' ⟨rfl, rfl⟩
  go_wp2_with fail
  go_ret
  exact ⟨rfl, rfl⟩
set_option maxRecDepth 100000 in
set_option maxHeartbeats 1000000 in
theorem fence_ok (B : Nat) (w : World) (D : DevB) (s : DSt) (h : IsDev B w D s) (t : Nat) (ht : t < s.T) (hw : Few s.writes 10000000000) (hl : (s.fl.getD t []).length ≤ 1000000000) (hin : ∀ x ∈ s.fl.getD t [], 0 ≤ x ∧ x < (s.n : Int)) :
    Calls Try.prog 81 #[D.ptr, .int .i64 (t : Int)] w (DevBack B w D { s.backs (s.fl.getD t []) with fl := s.fl.set t [] } (.returned (.int .i64 0))) := by
  unfold DevB.ptr
  have hT1 := h.T1
  have HC := Lib.hid (askT_ok _ _ _ _ (t : Int) (by omega) (by omega) w h.T1 h.c2)
  have c2 := h.c2
  obtain ⟨A, c, hv, hcap, hcm, hI, hA, hN⟩ := (RowN.of_row (h.fl t ht)).form (by decide)
  have hflc : w.cell? ⟨D.gf, t, none⟩ = some (.slice A (s.fl.getD t []).length c) := by
    rw [h.flb.cell t, ← hv, List.getD_eq_getElem?_getD]
    have : t < D.its.length := by rw [h.lits]; exact ht
    simp [this]
  have HV := Lib.hid hv
  clear hv hI hA
  have H := Lib.hid h
  clear h
  generalize hL : s.fl.getD t [] = L at *
  have HL := Lib.hid hL
  clear hL
  go_enter Try.func81, Try.ntmps81
  go_wp2_with fail
  refine HC.out.mono ?_
  rintro e w' ⟨rfl, rfl⟩
  go_wp2_with fail
  go_loopw [23] (fun i wr => ∃ k : Nat, k ≤ L.length ∧ i = .int .i64 k ∧ IsDev B wr D (s.backs (L.take k)) ∧ Fr D.foot w wr) (fun i _ => L.length - (intOf i).toNat)
  case atStart => exact ⟨0, Nat.zero_le _, rfl, by simpa [DSt.backs] using H.out, Fr.refl _ _⟩
  case round =>
    obtain ⟨k, hk, rfl, hd, hf⟩ := hrel
    by_cases hlt : k < L.length
    · have t1 : decide (k < L.length) = true := by simp; omega
      obtain ⟨x, hxk, hxt⟩ := take_step L k hlt
      have hx := hin x (by rw [← hxk]; simp [List.getD_eq_getElem?_getD, hlt])
      obtain ⟨q, rfl⟩ := Int.eq_ofNat_of_zero_le hx.1
      have hI := (hd.fl t (by rw [backs_T]; exact ht))
      rw [backs_fl, HL.out, HV.out] at hI
      obtain ⟨A2, c2', hv2, _, _, hI2, _⟩ := (RowN.of_row hI).form (by decide)
      injection hv2 with e1 e2 e3
      subst e1
      obtain ⟨ad, rfl, _, hc⟩ := hI2 (by omega)
      have hcell := hc k hlt
      rw [hxk] at hcell
      clear hc hI2 hI e2 e3
      have hfew := backs_few (L.take k) s _ hw q
      have hlk : (L.take k).length ≤ 1000000000 := by rw [List.length_take]; omega
      have HWB := Lib.hid (writeBack_of B wr D (s.backs (L.take k)) hd q (by rw [backs_n]; omega) (by omega))
      unfold DevB.ptr at HWB
      have HS := Lib.hid (show s.backs (L.take (k + 1)) = (s.backs (L.take k)).back q from by rw [hxt, backs_snoc]; rfl)
      have HF := Lib.hid hf
      clear hfew hlk hxk hxt hd hf hin
      go_wp2_with fail
      refine HWB.out.mono ?_
      rintro e w2 ⟨⟨v2, rfl⟩, hd2, hf2⟩
      go_wp2_with fail
      go_roundw
      case rel => exact ⟨k + 1, by omega, by go_num, by rw [HS.out]; exact hd2, HF.out.trans hf2 (fun g _ hs => hs)⟩
      case measure => simp [intOf]; omega
    · have t1 : decide (k < L.length) = false := by simp; omega
      have e : L.take k = L := List.take_of_length_le (by omega)
      rw [e] at hd
      clear e
      have c2' := hd.c2
      rw [backs_T] at c2'
      have hcf : ∃ u, wr.cell? ⟨D.gf, t, none⟩ = some u := by
        rw [hd.flb.cell t]
        have : t < D.its.length := by have := hd.lits; rw [backs_T] at this; omega
        exact ⟨_, List.getElem?_eq_getElem this⟩
      obtain ⟨u, hcu⟩ := hcf
      have hff := hd.flb.frozen t
      have HP := Lib.hid (hd.putSet t (by rw [backs_T]; exact ht) (.slice none 0 0) [] (Row.nil _ _ _ _) (fun _ _ _ _ h => by cases h) (by simp [Value.ownBlock]))
      have HF := Lib.hid hf
      clear hd hf hin
      go_wp2_with fail
      go_ret
      refine ⟨rfl, { D with its := D.its.set t (.slice none 0 0) }, rfl, ?_, HF.out.setCell (Or.inl (Or.inr (Or.inr (Or.inr (Or.inl rfl))))) _, fun g hg => ?_⟩
      · have := HP.out
        rw [backs_fl] at this
        exact this
      · rcases foot_putSet hg with h1 | h1
        · exact Or.inl h1
        · cases h1
set_option maxHeartbeats 400000 in
theorem fence_no (B : Nat) (w : World) (D : DevB) (s : DSt) (h : IsDev B w D s) (t : Int) (ha : t < 0 ∨ (s.T : Int) ≤ t) :
    Calls Try.prog 81 #[D.ptr, .int .i64 t] w fun e w' => e = .returned (.int .i64 1) ∧ w = w' := by
  unfold DevB.ptr
  have HC : Hid (Calls Try.prog 102 #[.pointer (some ⟨D.gd, 0, none⟩), .int .i64 t] w fun e w' => e = .returned (.int .i64 1) ∧ w = w') := by
    rcases ha with ha | ha
    · exact Lib.hid (askT_lo _ _ _ _ t ha w h.T1 h.c2)
    · exact Lib.hid (askT_hi _ _ _ _ t ha w h.T1 h.c2)
  clear ha
  go_enter Try.func81, Try.ntmps81
  go_wp2_with fail
  refine HC.out.mono ?_
  rintro e w' ⟨rfl, rfl⟩
  go_wp2_with fail
  go_ret
  exact ⟨rfl, rfl⟩
theorem fence_nil (t : Int) (w : World) :
    Calls Try.prog 81 #[.pointer none, .int .i64 t] w fun e w' => e = .returned (.int .i64 1) ∧ w = w' := by
  go_enter Try.func81, Try.ntmps81
  go_wp2_with fail
  refine (askT_nil _ _).mono ?_
  rintro e w' ⟨rfl, rfl⟩
  go_wp2_with fail
  go_ret
  exact ⟨rfl, rfl⟩
end Go.Proofs.Ytcelhllhdkminaa
