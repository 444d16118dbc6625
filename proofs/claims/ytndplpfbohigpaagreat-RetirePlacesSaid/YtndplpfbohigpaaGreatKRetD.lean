/- A device of few lines: what was flushed is few, however long the way; what flushes and fences leave of what is seen. Conditions: those that each theorem names. -/
import Derived.Test.YtndplpfbohigpaaGreatKPk
import Derived.Test.YtndplpfbohigpaaGreatKRetC
import Derived.Test.YtndplpfbohigpaaGreatKFM
namespace Go.Proofs.YtndplpfbohigpaaGreat
open Go.ChangeShapes Go.WideShapes Go.ChangeAt Go.RowKit
set_option linter.unusedVariables false
theorem seen_flush (s : DSt) (t l : Int) : (s.flush t l).seen = s.seen ∧ (s.flush t l).n = s.n := by
  unfold DSt.flush
  split <;> exact ⟨rfl, rfl⟩
theorem seen_fence (s : DSt) (t : Int) : (s.fence t).seen = s.seen ∧ (s.fence t).n = s.n := by
  unfold DSt.fence
  split
  · exact ⟨backs_seen _ _, backs_n _ _⟩
  · exact ⟨rfl, rfl⟩
theorem peekV_seen {s s' : MSt} (h1 : s'.dev.seen = s.dev.seen) (h2 : s'.dev.n = s.dev.n) (h3 : s'.pas = s.pas) (b : Int) : peekV s' b = peekV s b := by
  unfold peekV loadV
  rw [h1, h2, h3]
theorem peekV_flush (s : MSt) (t a b : Int) : peekV (s.flush t a) b = peekV s b := peekV_seen (s := s) (s' := s.flush t a) (seen_flush s.dev t (lineNo a)).1 (seen_flush s.dev t (lineNo a)).2 rfl b
theorem peekV_fence (s : MSt) (t b : Int) : peekV (s.fence t) b = peekV s b := peekV_seen (s := s) (s' := s.fence t) (seen_fence s.dev t).1 (seen_fence s.dev t).2 rfl b
theorem MOk.flush {P N : Nat} {s : MSt} (h : MOk P N s) (t a : Int) : MOk P N (s.flush t a) := by
  obtain ⟨e1, e2⟩ := seen_flush s.dev t (lineNo a)
  exact ⟨h.p, e2.trans h.n, by show (s.dev.flush t (lineNo a)).seen.length = (s.dev.flush t (lineNo a)).n * 8; rw [e1, e2]; exact h.l⟩
theorem MOk.fence {P N : Nat} {s : MSt} (h : MOk P N s) (t : Int) : MOk P N (s.fence t) := by
  obtain ⟨e1, e2⟩ := seen_fence s.dev t
  exact ⟨h.p, e2.trans h.n, by show (s.dev.fence t).seen.length = (s.dev.fence t).n * 8; rw [e1, e2]; exact h.l⟩
theorem sorted_len : ∀ (l : List Int) (lo n : Int), l.Pairwise (· < ·) → (∀ x ∈ l, lo ≤ x ∧ x < n) → lo ≤ n → (l.length : Int) ≤ n - lo
  | [], lo, n, _, _, h => by simp; omega
  | x :: l, lo, n, hs, hr, h => by
    have hx := hr x (by simp)
    have h1 := List.pairwise_cons.1 hs
    have := sorted_len l (x + 1) n h1.2 (fun y hy => ⟨h1.1 y hy, (hr y (by simp [hy])).2⟩) (by omega)
    simp only [List.length_cons]
    omega
theorem Fine.len90 {i : Nat} {s : DSt} (h : Fine i s) (hn : s.n ≤ 90) (t : Nat) : (s.fl.getD t []).length ≤ 90 := by
  have := sorted_len _ 0 s.n (h.srt t) (h.rng t) (by omega)
  omega
theorem Fine.flush9 {i : Nat} {s : DSt} (h : Fine i s) (t l : Int) : Fine (i + 1) (s.flush t l) := by
  unfold DSt.flush
  split
  · rename_i hc
    refine ⟨fun t' => ?_, fun t' y hy => ?_, fun t' => ?_, h.few.mono (by omega)⟩
    · show (((s.fl.set t.toNat _).getD t' []).Pairwise (· < ·))
      rcases getD_set s.fl t.toNat t' (setAdd (s.fl.getD t.toNat []) l) with e | e
      · rw [e]; exact setAdd_sorted _ _ (h.srt _)
      · rw [e]; exact h.srt _
    · have hy' : y ∈ (s.fl.set t.toNat (setAdd (s.fl.getD t.toNat []) l)).getD t' [] := hy
      show 0 ≤ y ∧ y < (s.n : Int)
      rcases getD_set s.fl t.toNat t' (setAdd (s.fl.getD t.toNat []) l) with e | e
      · rw [e] at hy'
        rcases (setAdd_mem _ _ _).1 hy' with rfl | hy'
        · exact ⟨hc.2.2.1, hc.2.2.2⟩
        · exact h.rng _ _ hy'
      · rw [e] at hy'
        exact h.rng _ _ hy'
    · show ((s.fl.set t.toNat _).getD t' []).length ≤ i + 1
      rcases getD_set s.fl t.toNat t' (setAdd (s.fl.getD t.toNat []) l) with e | e
      · rw [e]
        have := setAdd_len (s.fl.getD t.toNat []) l
        have := h.len t.toNat
        omega
      · rw [e]
        have := h.len t'
        omega
  · exact h.up
theorem Fine.fence9 {i : Nat} {s : DSt} (h : Fine i s) (hn9 : s.n ≤ 90) (t : Int) : Fine (i + 1) (s.fence t) := by
  unfold DSt.fence
  split
  · have hn : (s.backs (s.fl.getD t.toNat [])).n = s.n := backs_n _ s
    refine ⟨fun t' => ?_, fun t' y hy => ?_, fun t' => ?_, ?_⟩
    · show (((s.fl.set t.toNat []).getD t' []).Pairwise (· < ·))
      rcases getD_set s.fl t.toNat t' [] with e | e
      · rw [e]; exact List.Pairwise.nil
      · rw [e]; exact h.srt _
    · have hy' : y ∈ (s.fl.set t.toNat []).getD t' [] := hy
      show 0 ≤ y ∧ y < ((s.backs (s.fl.getD t.toNat [])).n : Int)
      rw [hn]
      rcases getD_set s.fl t.toNat t' [] with e | e
      · rw [e] at hy'; cases hy'
      · rw [e] at hy'
        exact h.rng _ _ hy'
    · show ((s.fl.set t.toNat []).getD t' []).length ≤ i + 1
      rcases getD_set s.fl t.toNat t' [] with e | e
      · rw [e]; simp
      · rw [e]
        have := h.len t'
        omega
    · have hl := h.len90 hn9 t.toNat
      exact (backs_few (s.fl.getD t.toNat []) s _ h.few).mono (by omega)
  · exact h.up
theorem act_fine9 {k : Nat} {s : MSt} (hf : Fine k s.dev) (hn : s.dev.n ≤ 90) (kd t a z x : Int) : Fine (k + 1) (s.act kd t a z x).dev := by
  unfold MSt.act
  split
  · unfold MSt.load; split <;> exact hf.up
  split
  · unfold MSt.store; split
    · exact (put_fine0 hf a x).up
    · exact hf.up
  split
  · unfold MSt.swap; split
    · split
      · exact (put_fine0 hf a x).up
      · exact hf.up
    · exact hf.up
  split
  · exact hf.flush9 t (lineNo a)
  split
  · exact hf.fence9 hn t
  split
  · show Fine (k + 1) (s.dev.evict a)
    unfold DSt.evict
    split
    · exact ⟨hf.srt, hf.rng, fun t => by have := hf.len t; show (s.dev.fl.getD t []).length ≤ k + 1; omega, (Few.back hf.few _).mono (by omega)⟩
    · exact hf.up
  · have hg : ∀ t', (List.replicate s.dev.T ([] : List Int)).getD t' [] = [] := fun t' => by
      rw [List.getD_eq_getElem?_getD, List.getElem?_replicate]
      split <;> rfl
    refine ⟨fun t' => ?_, fun t' y hy => ?_, fun t' => ?_, hf.few.mono (by omega)⟩
    · show (((List.replicate s.dev.T ([] : List Int)).getD t' []).Pairwise (· < ·))
      rw [hg]; exact List.Pairwise.nil
    · have hy' : y ∈ (List.replicate s.dev.T ([] : List Int)).getD t' [] := hy
      rw [hg] at hy'; cases hy'
    · show ((List.replicate s.dev.T ([] : List Int)).getD t' []).length ≤ k + 1
      rw [hg]; simp
end Go.Proofs.YtndplpfbohigpaaGreat

/- A Reserve's run where a place of the log is empty: plain mathematics. Conditions: those that each theorem names. -/
namespace Go.Proofs.YtndplpfbohigpaaGreat
open Go.ChangeShapes Go.WideShapes Go.ChangeAt Go.RowKit
set_option linter.unusedVariables false
section
variable {P N L : Nat} {F : Nat → Int} {th slot : Int} {st : MSt}
/-- Ahead of the empty place each step looks at one place more. -/
theorem res_head (hL : F 2 = (L : Int)) (ok : MOk P N st) (p : Nat) (hp : p < L) (hv : ∀ n : Nat, n < p → peekV st (logN F th n) ≠ 0) : ∀ k : Nat, k ≤ p →
    (stepsR (rvS F th slot) (⟨0, 0, false⟩, st) k).1 = ⟨(k : Int), 0, false⟩ ∧ (∀ a, peekV (stepsR (rvS F th slot) (⟨0, 0, false⟩, st) k).2 a = peekV st a) ∧ MOk P N (stepsR (rvS F th slot) (⟨0, 0, false⟩, st) k).2
  | 0, _ => ⟨rfl, fun _ => rfl, ok⟩
  | k + 1, hk => by
    obtain ⟨h1, h2, h3⟩ := res_head hL ok p hp hv k (by omega)
    show (rvS F th slot (stepsR (rvS F th slot) (⟨0, 0, false⟩, st) k).1 (stepsR (rvS F th slot) (⟨0, 0, false⟩, st) k).2).1 = _ ∧ (∀ a, peekV (rvS F th slot (stepsR (rvS F th slot) (⟨0, 0, false⟩, st) k).1 (stepsR (rvS F th slot) (⟨0, 0, false⟩, st) k).2).2 a = peekV st a) ∧ MOk P N (rvS F th slot (stepsR (rvS F th slot) (⟨0, 0, false⟩, st) k).1 (stepsR (rvS F th slot) (⟨0, 0, false⟩, st) k).2).2
    generalize stepsR (rvS F th slot) (⟨0, 0, false⟩, st) k = q at *
    obtain ⟨x, s⟩ := q
    simp only at h1 h2 h3
    subst h1
    have e : rvS F th slot ⟨(k : Int), 0, false⟩ s = (if peekV s (logN F th k) = 0 then ⟨(k : Int), 1, false⟩ else ⟨(k : Int) + 1, 0, decide (F 2 ≤ (k : Int) + 1)⟩, s.load th (logN F th k)) := rfl
    rw [e, h2, if_neg (hv k (by omega)), hL, decide_eq_false (show ¬ (L : Int) ≤ (k : Int) + 1 by omega)]
    exact ⟨by congr 1, fun a => by rw [peekV_load]; exact h2 a, h3.load _ _⟩
/-- **WHERE A PLACE IS EMPTY THE RESERVE TAKES IT.** -/
theorem res_free (hL : F 2 = (L : Int)) (ok : MOk P N st) (p : Nat) (hp : p < L) (hv : ∀ n : Nat, n < p → peekV st (logN F th n) ≠ 0) (h0 : peekV st (logN F th p) = 0) (hr : -1 - (P : Int) < logN F th p ∧ logN F th p < (N : Int) * 8) (k : Nat) :
    (stepsR (rvS F th slot) (⟨0, 0, false⟩, st) (p + 4 + k)).1 = ⟨(p : Int), 4, true⟩ ∧ (∀ a, peekV (stepsR (rvS F th slot) (⟨0, 0, false⟩, st) (p + 4 + k)).2 a = if a = logN F th p then entN slot (-1) else peekV st a) ∧ MOk P N (stepsR (rvS F th slot) (⟨0, 0, false⟩, st) (p + 4 + k)).2 := by
  induction k with
  | zero =>
    obtain ⟨h1, h2, h3⟩ := res_head (th := th) (slot := slot) hL ok p hp hv p (Nat.le_refl p)
    have e : stepsR (rvS F th slot) (⟨0, 0, false⟩, st) (p + 4 + 0) = (fun q : RvM × MSt => rvS F th slot q.1 q.2) ((fun q : RvM × MSt => rvS F th slot q.1 q.2) ((fun q : RvM × MSt => rvS F th slot q.1 q.2) ((fun q : RvM × MSt => rvS F th slot q.1 q.2) (stepsR (rvS F th slot) (⟨0, 0, false⟩, st) p)))) := rfl
    rw [e]
    clear e
    generalize stepsR (rvS F th slot) (⟨0, 0, false⟩, st) p = q at *
    obtain ⟨x, s⟩ := q
    simp only at h1 h2 h3
    subst h1
    have e1 : rvS F th slot ⟨(p : Int), 0, false⟩ s = (⟨(p : Int), 1, false⟩, s.load th (logN F th p)) := by
      have e : rvS F th slot ⟨(p : Int), 0, false⟩ s = (if peekV s (logN F th p) = 0 then ⟨(p : Int), 1, false⟩ else ⟨(p : Int) + 1, 0, decide (F 2 ≤ (p : Int) + 1)⟩, s.load th (logN F th p)) := rfl
      rw [e, h2, if_pos h0]
    have e2 : ∀ s2, rvS F th slot ⟨(p : Int), 1, false⟩ s2 = (⟨(p : Int), 2, false⟩, s2.store th (logN F th p) (entN slot (-1))) := fun _ => rfl
    have e3 : ∀ s2, rvS F th slot ⟨(p : Int), 2, false⟩ s2 = (⟨(p : Int), 3, false⟩, s2.flush th (logN F th p)) := fun _ => rfl
    have e4 : ∀ s2, rvS F th slot ⟨(p : Int), 3, false⟩ s2 = (⟨(p : Int), 4, true⟩, s2.fence th) := fun _ => rfl
    simp only [e1, e2, e3, e4]
    have o1 := h3.load th (logN F th p)
    have hp1 := o1.is hr.1 hr.2
    refine ⟨trivial, fun a => ?_, ((o1.store th (logN F th p) (entN slot (-1))).flush th (logN F th p)).fence th⟩
    rw [peekV_fence, peekV_flush, peekV_store o1 hp1, peekV_load, h2]
  | succ k ih =>
    obtain ⟨h1, h2, h3⟩ := ih
    have e : stepsR (rvS F th slot) (⟨0, 0, false⟩, st) (p + 4 + (k + 1)) = rvS F th slot (stepsR (rvS F th slot) (⟨0, 0, false⟩, st) (p + 4 + k)).1 (stepsR (rvS F th slot) (⟨0, 0, false⟩, st) (p + 4 + k)).2 := rfl
    rw [e]
    generalize stepsR (rvS F th slot) (⟨0, 0, false⟩, st) (p + 4 + k) = q at *
    obtain ⟨x, s⟩ := q
    simp only at h1 h2 h3
    subst h1
    exact ⟨rfl, h2, h3⟩
end
end Go.Proofs.YtndplpfbohigpaaGreat

/- A device of few lines: what was flushed is few, however long the way. Conditions: those that each theorem names. -/
namespace Go.Proofs.YtndplpfbohigpaaGreat
open Go.ChangeShapes Go.WideShapes Go.ChangeAt Go.RowKit
set_option linter.unusedVariables false
theorem rvS_fine9 {k : Nat} {F : Nat → Int} {t slot : Int} {x : RvM} {s : MSt} (hf : Fine k s.dev) (hn : s.dev.n ≤ 90) : Fine (k + 1) (rvS F t slot x s).2.dev := by
  unfold rvS
  split
  · exact hf.up
  split
  · show Fine (k + 1) (s.load t (logN F t x.place)).dev
    rw [(load_parts s t (logN F t x.place)).1]
    exact hf.up
  split
  · exact (store_fine0 hf t (logN F t x.place) (entN slot (-1))).up
  split
  · exact hf.flush9 t (lineNo (logN F t x.place))
  · exact hf.fence9 hn t
theorem MOk.rv {P N : Nat} {F : Nat → Int} {t slot : Int} {x : RvM} {s : MSt} (h : MOk P N s) : MOk P N (rvS F t slot x s).2 := by
  unfold rvS
  split
  · exact h
  split
  · exact h.load _ _
  split
  · exact h.store _ _ _
  split
  · exact h.flush _ _
  · exact h.fence _
/-- A Reserve's run, however long the way ahead of it was. -/
theorem runF9 {F : Nat → Int} {L P N : Nat} (hL : F 2 = (L : Int)) (h0 : 0 < L) (t slot : Int) (s : MSt) {i : Nat} {n : Int} (h1 : Fine i s.dev) (h2 : CalmN n s) (ok : MOk P N s) (hN : N ≤ 90) : ∀ k : Nat, (stepsR (rvS F t slot) (⟨0, 0, false⟩, s) k).1.Wf (L : Int) ∧ Fine (i + k) (stepsR (rvS F t slot) (⟨0, 0, false⟩, s) k).2.dev ∧ CalmN (n + k) (stepsR (rvS F t slot) (⟨0, 0, false⟩, s) k).2 ∧ MOk P N (stepsR (rvS F t slot) (⟨0, 0, false⟩, s) k).2
  | 0 => ⟨RvM.wf0 (by omega), h1, by show CalmN (n + ((0 : Nat) : Int)) s; simpa using h2, ok⟩
  | k + 1 => by
    obtain ⟨h3, h4, h5, h6⟩ := runF9 hL h0 t slot s h1 h2 ok hN k
    refine ⟨rvS_wf hL h3, rvS_fine9 (k := i + k) h4 (by rw [h6.n]; exact hN), ?_, h6.rv⟩
    have := rvS_calm (F := F) (t := t) (slot := slot) (x := (stepsR (rvS F t slot) (⟨0, 0, false⟩, s) k).1) h5
    rw [show n + ((k + 1 : Nat) : Int) = n + (k : Int) + 1 by omega]
    exact this
end Go.Proofs.YtndplpfbohigpaaGreat

/- A Reserve alone: where a log's entries lie; a full log. Conditions: those that each theorem names. -/
namespace Go.Proofs.YtndplpfbohigpaaGreat
open Go.ChangeShapes Go.WideShapes Go.ChangeAt Go.RowKit
set_option linter.unusedVariables false
theorem log_in {t s l b i n : Nat} (hi : i < t) (hn : n < l) : 0 ≤ logN (layF t s l b) i n ∧ logN (layF t s l b) i n < (wN t s l b : Int) * 8 := by
  obtain ⟨j, hj, e⟩ := NM.getD_mem (NM.mem_log t s l b i n hi hn)
  have hf := NM.fits_last t s l b j hj
  rw [e] at hf
  simp only at hf
  have e1 : toldF (layF t s l b) 8 i n = logN (layF t s l b) i n := rfl
  rw [e1] at hf
  have hlen := NM.last_len t s l b
  have hlen2 : (NM.last t s l b).length = wN t s l b * 8 := by rw [hlen, Nat.mul_comm]; rfl
  rcases hf with hf | ⟨_, _, hf⟩
  · omega
  · rw [hf]
    omega
theorem log_inj {t s l b i n n' : Nat} (hi : i < t) (hn : n < l) (hn' : n' < l) (h : logN (layF t s l b) i n = logN (layF t s l b) i n') : n = n' := by
  have key : ∀ m : Nat, m < l → logN (layF t s l b) i m = layF t s l b 15 + (i : Int) * layF t s l b 16 + (m : Int) := fun m hm => by
    have e : logN (layF t s l b) i m = if 0 ≤ (m : Int) ∧ (m : Int) < (l : Int) then wordAt (layF t s l b 4) (layF t s l b 15) (layF t s l b 16) (t : Int) i m else layF t s l b 4 * 8 := rfl
    rw [e, if_pos ⟨by omega, by omega⟩]
    unfold wordAt
    rw [if_pos ⟨by omega, by omega⟩]
  rw [key n hn, key n' hn'] at h
  omega
/-- A Reserve in a full log, behind k steps. -/
structure FullAt (F : Nat → Int) (l k : Nat) (st : MSt) (p : RvM × MSt) : Prop where
  x : p.1 = ⟨((min k l : Nat) : Int), 0, decide (l ≤ k)⟩
  v : ∀ a, peekV p.2 a = peekV st a
  c : p.2.clock = st.clock + ((min k l : Nat) : Int)
  k : 0 < k → p.2.last.k = 1
theorem load_k (s : MSt) (t a : Int) : (s.load t a).last.k = 1 := by
  unfold MSt.load
  split <;> rfl
theorem full_run {F : Nat → Int} {l : Nat} {th : Int} {st : MSt} (hL : F 2 = (l : Int)) (h0 : 0 < l) (hv : ∀ n : Nat, n < l → peekV st (logN F th n) ≠ 0) : ∀ k : Nat, FullAt F l k st (stepsR (rvS F th 0) (⟨0, 0, false⟩, st) k)
  | 0 => ⟨by show (⟨0, 0, false⟩ : RvM) = _; rw [Nat.zero_min]; congr 1; simp; omega, fun _ => rfl, by show st.clock = _; rw [Nat.zero_min]; simp, fun h => absurd h (by omega)⟩
  | k + 1 => by
    obtain ⟨hx, hpv, hc, hk⟩ := full_run hL h0 hv k
    show FullAt F l (k + 1) st (rvS F th 0 (stepsR (rvS F th 0) (⟨0, 0, false⟩, st) k).1 (stepsR (rvS F th 0) (⟨0, 0, false⟩, st) k).2)
    generalize stepsR (rvS F th 0) (⟨0, 0, false⟩, st) k = p at *
    obtain ⟨x, s⟩ := p
    simp only at hx hpv hc hk
    subst hx
    by_cases hlk : l ≤ k
    · have e : rvS F th 0 ⟨((min k l : Nat) : Int), 0, decide (l ≤ k)⟩ s = (⟨((min k l : Nat) : Int), 0, decide (l ≤ k)⟩, s) := by
        unfold rvS
        rw [if_pos (by simpa using hlk)]
      rw [e]
      refine ⟨?_, hpv, by rw [hc, Nat.min_eq_right hlk, Nat.min_eq_right (by omega)], fun _ => hk (by omega)⟩
      rw [Nat.min_eq_right hlk, Nat.min_eq_right (show l ≤ k + 1 by omega)]
      congr 1
      simp
      omega
    · have hkl : k < l := by omega
      have ed : decide (l ≤ k) = false := by simpa using hlk
      have em : min k l = k := Nat.min_eq_left (by omega)
      rw [em, ed] at *
      have e : rvS F th 0 ⟨(k : Int), 0, false⟩ s = (if peekV s (logN F th k) = 0 then ⟨(k : Int), 1, false⟩ else ⟨(k : Int) + 1, 0, decide (F 2 ≤ (k : Int) + 1)⟩, s.load th (logN F th k)) := rfl
      rw [e, hpv, if_neg (hv k hkl)]
      refine ⟨?_, fun a => by rw [peekV_load]; exact hpv a, ?_, fun _ => load_k _ _ _⟩
      · show (⟨(k : Int) + 1, 0, decide (F 2 ≤ (k : Int) + 1)⟩ : RvM) = _
        rw [Nat.min_eq_left (show k + 1 ≤ l by omega), hL]
        have : decide ((l : Int) ≤ (k : Int) + 1) = decide (l ≤ k + 1) := by
          by_cases h : l ≤ k + 1
          · rw [decide_eq_true h, decide_eq_true (by omega)]
          · rw [decide_eq_false h, decide_eq_false (by omega)]
        rw [this]
        congr 1
      · show (s.load th (logN F th k)).clock = _
        rw [(load_parts s th (logN F th k)).2.2, hc, Nat.min_eq_left (show k + 1 ≤ l by omega)]
        omega
/-- The words that fill a log. -/
def fullP (F : Nat → Int) (th : Int) (xs : List Int) (k : Nat) : Put := (logN F th k, bits .or .u64 (xs.getD k 0) 1)
def fullPs (F : Nat → Int) (th : Int) (xs : List Int) (k : Nat) : List Put := (List.range k).map (fullP F th xs)
theorem fullPs_len (F : Nat → Int) (th : Int) (xs : List Int) (k : Nat) : (fullPs F th xs k).length = k := by simp [fullPs]
theorem fullPs_succ (F : Nat → Int) (th : Int) (xs : List Int) (k : Nat) : fullPs F th xs (k + 1) = fullPs F th xs k ++ [fullP F th xs k] := by simp [fullPs, List.range_succ]
theorem or1 (x : Int) (hx : W64 x) : bits .or .u64 x 1 ≠ 0 ∧ W64 (bits .or .u64 x 1) := by
  obtain ⟨n, rfl⟩ := Int.eq_ofNat_of_zero_le hx.1
  have hn : n < 2 ^ 64 := by have := hx.2; omega
  have e : bits .or .u64 (n : Int) 1 = ((n ||| 1 : Nat) : Int) := by
    show bits .or .u64 (n : Int) ((1 : Nat) : Int) = _
    rw [u64_or_nat n 1 (by have := hx.2; omega) (by omega)]
  rw [e]
  have h1 : (n ||| 1) < 2 ^ 64 := Nat.or_lt_two_pow hn (by decide)
  have h2 : 1 ≤ n ||| 1 := Nat.right_le_or
  exact ⟨by omega, by unfold W64; omega⟩
/-- A Reserve's run over a calm memory. -/
theorem runF {F : Nat → Int} {L : Nat} (hL : F 2 = (L : Int)) (h0 : 0 < L) (t slot : Int) (s : MSt) (h1 : Fine 30 s.dev) (h2 : CalmN 100 s) : ∀ k : Nat, k ≤ 60 → (stepsR (rvS F t slot) (⟨0, 0, false⟩, s) k).1.Wf (L : Int) ∧ Fine (30 + k) (stepsR (rvS F t slot) (⟨0, 0, false⟩, s) k).2.dev ∧ CalmN (100 + k) (stepsR (rvS F t slot) (⟨0, 0, false⟩, s) k).2
  | 0, _ => ⟨RvM.wf0 (by omega), h1, by show CalmN (100 + ((0 : Nat) : Int)) s; simpa using h2⟩
  | k + 1, hk => by
    obtain ⟨h3, h4, h5⟩ := runF hL h0 t slot s h1 h2 k (by omega)
    exact ⟨rvS_wf hL h3, rvS_fine (k := 30 + k) h4 (by omega), by have := rvS_calm (F := F) (t := t) (slot := slot) (x := (stepsR (rvS F t slot) (⟨0, 0, false⟩, s) k).1) h5; rw [show (100 : Int) + ((k + 1 : Nat) : Int) = 100 + (k : Int) + 1 by omega]; exact this⟩
/-- A log that was filled is full. -/
theorem full_ground {t s l b th : Nat} (hth : th < t) (xs : List Int) (hX : ∀ i, W64 (xs.getD i 0)) (n : Nat) (hn : n < l) : peekV (groundSt t s l b (fullPs (layF t s l b) th xs l)) (logN (layF t s l b) th n) ≠ 0 := by
  have h := (putAll_peek (MOk.start t s l b) (fullP (layF t s l b) th xs) (fun _ => Or.inr trivial) l (fun i hi => by
    have := log_in (t := t) (s := s) (l := l) (b := b) hth hi
    show -1 - ((2 + t + s : Nat) : Int) < logN (layF t s l b) th i ∧ logN (layF t s l b) th i < _
    omega) (fun i j hij hj e => by
    have := log_inj (t := t) (s := s) (l := l) (b := b) hth (show i < l by omega) hj e
    omega)).1 n hn
  have e : peekV (groundSt t s l b (fullPs (layF t s l b) th xs l)) (logN (layF t s l b) th n) = bits .or .u64 (xs.getD n 0) 1 := h
  rw [e]
  exact (or1 _ (hX n)).1
theorem fullP_fit {t s l b th k : Nat} (hth : th < t) (hk : k < l) (ht : t ≤ 6) (hs : s ≤ 30) (hl : l ≤ 8) (hb : b ≤ 8) (xs : List Int) (hX : ∀ i, W64 (xs.getD i 0)) : PutFit (fullP (layF t s l b) th xs k) := by
  have h := log_in (t := t) (s := s) (l := l) (b := b) hth hk
  have hw : wN t s l b ≤ 60 := wN_le ht hs hl hb
  exact ⟨⟨by show _ ≤ logN (layF t s l b) th k; omega, by show logN (layF t s l b) th k < _; omega⟩, (or1 _ (hX k)).2⟩
theorem fullPs_get (F : Nat → Int) (th : Int) (xs : List Int) (k i : Nat) (hi : i < k) : (fullPs F th xs k).getD i (0, 0) = fullP F th xs i := by
  unfold fullPs
  rw [List.getD_eq_getElem?_getD, List.getElem?_map, List.getElem?_range hi]
  rfl
theorem words_get (xs : List Int) (k : Nat) (hk : k < xs.length) : (xs.map (Value.int .u64))[k]? = some (.int .u64 (xs.getD k 0)) := by
  rw [List.getElem?_map, List.getD_eq_getElem?_getD, List.getElem?_eq_getElem hk]
  rfl
/-- append(row, Put{..}) in a region that draws, whatever the world. -/
theorem step_pushPutG {P : Program} {ops : Array Oper} {o : Oper} {a : Act} {K : Act → World → Prop} {Q : Exit → Act → World → Prop} {E : Prop} (hgd : o.guard = none) (s x : Operand) (t : TypeId)
    (ho : o.op = .call { callee := .builtin .append, args := #[s, x], argTypes := #[t, t] })
    (e : TypeId) (hinfo : (P.info? e).map (fun i => (i.zero, i.size, i.bytes)) = some (some (.agg #[.int .i64 0, .int .u64 0]), 2, 16)) (ht : P.underlying t = some (.slice e))
    (w0 W : World) (v : Value) (n : Nat) (us : List Value) (r0 r1 : Int) (hs : a.eval s = v) (hrow : W.ownsRow w0.heap.size e 2 v n us) (ext : Ext w0 W)
    (hx : a.eval x = .slice (some ⟨W.heap.size, 0, none⟩) 1 1) (hlen : n < 1000000)
    (h : ∀ g cap w', w'.ownsRow w0.heap.size e 2 (.slice (some ⟨g, 0, none⟩) (n + 1) cap) (n + 1) (us ++ [.int .i64 r0, .int .u64 r1]) → Ext w0 w' → Fr (fun b => v.ownBlock = some b) W w' → (v.ownBlock = some g ∨ W.heap.size ≤ g) → K (a.put o.dst (.slice (some ⟨g, 0, none⟩) (n + 1) cap)) w') :
    if Region.wanted o (yielded ops a.tmps) = true then Oper.wp P o a (W.alloc (.cells #[.int .i64 r0, .int .u64 r1] e)) K Q else E := by
  obtain ⟨i, hi, hz1, hz2, hz3⟩ := info_parts hinfo
  refine step_append_lies _ hgd s x t ho w0.heap.size e i (.agg #[.int .i64 0, .int .u64 0]) 2 16 ht hi hz1 hz2 hz3 rfl (by decide) v n us hs (World.ownsRow.alloc hrow _) ⟨W.heap.size, 0, none⟩ 1 1 [.int .i64 r0, .int .u64 r1] hx rfl ?_ ?_ (by omega) ?_ ?_ ?_ _ rfl ?_
  · intro j u' hj
    have hb := Blk.new W e [.int .i64 r0, .int .u64 r1]
    rw [at0]
    show (W.alloc (.cells #[.int .i64 r0, .int .u64 r1] e)).cell? ⟨W.heap.size, j, none⟩ = _
    rw [hb.cell j]
    exact hj
  · intro u' hu'
    simp at hu'
    rcases hu' with rfl | rfl <;> rfl
  · unfold maxLen; omega
  · omega
  · have := ext.size; simp; omega
  · intro g cap w' hown hg hat _
    have hlt := World.ownsRow.lt hrow
    refine h g cap w' hown ?_ ?_ ?_
    · exact Ext.of ((Below.alloc ext.below ext.size _).grown hg (by have := ext.size; simp; omega) (fun q hq => (hlt q hq).1))
    · have hsz := hg.size
      simp at hsz
      refine ⟨hg.os, hg.tape, hg.output, by omega, fun b hb hne => (hg.block b (by simp; omega) (fun e => hne e.symm)).trans (Below.heap_alloc _ _ _ hb)⟩
    · rcases hat with h | h
      · exact Or.inl h
      · exact Or.inr (by rw [h]; simp)
end Go.Proofs.YtndplpfbohigpaaGreat

/- A log of places that are reserved and cancelled, one thread alone: plain mathematics of RetirePlaces. Conditions: those that each theorem names. -/
namespace Go.Proofs.YtndplpfbohigpaaGreat
open Go.ChangeShapes Go.WideShapes Go.ChangeAt Go.RowKit
set_option linter.unusedVariables false
theorem full_run2 {F : Nat → Int} {l : Nat} {th slot : Int} {st : MSt} (hL : F 2 = (l : Int)) (h0 : 0 < l) (hv : ∀ n : Nat, n < l → peekV st (logN F th n) ≠ 0) : ∀ k : Nat, FullAt F l k st (stepsR (rvS F th slot) (⟨0, 0, false⟩, st) k)
  | 0 => ⟨by show (⟨0, 0, false⟩ : RvM) = _; rw [Nat.zero_min]; congr 1; simp; omega, fun _ => rfl, by show st.clock = _; rw [Nat.zero_min]; simp, fun h => absurd h (by omega)⟩
  | k + 1 => by
    obtain ⟨hx, hpv, hc, hk⟩ := full_run2 hL h0 hv k
    show FullAt F l (k + 1) st (rvS F th slot (stepsR (rvS F th slot) (⟨0, 0, false⟩, st) k).1 (stepsR (rvS F th slot) (⟨0, 0, false⟩, st) k).2)
    generalize stepsR (rvS F th slot) (⟨0, 0, false⟩, st) k = p at *
    obtain ⟨x, s⟩ := p
    simp only at hx hpv hc hk
    subst hx
    by_cases hlk : l ≤ k
    · have e : rvS F th slot ⟨((min k l : Nat) : Int), 0, decide (l ≤ k)⟩ s = (⟨((min k l : Nat) : Int), 0, decide (l ≤ k)⟩, s) := by
        unfold rvS
        rw [if_pos (by simpa using hlk)]
      rw [e]
      refine ⟨?_, hpv, by rw [hc, Nat.min_eq_right hlk, Nat.min_eq_right (by omega)], fun _ => hk (by omega)⟩
      rw [Nat.min_eq_right hlk, Nat.min_eq_right (show l ≤ k + 1 by omega)]
      congr 1
      simp
      omega
    · have hkl : k < l := by omega
      have ed : decide (l ≤ k) = false := by simpa using hlk
      have em : min k l = k := Nat.min_eq_left (by omega)
      rw [em, ed] at *
      have e : rvS F th slot ⟨(k : Int), 0, false⟩ s = (if peekV s (logN F th k) = 0 then ⟨(k : Int), 1, false⟩ else ⟨(k : Int) + 1, 0, decide (F 2 ≤ (k : Int) + 1)⟩, s.load th (logN F th k)) := rfl
      rw [e, hpv, if_neg (hv k hkl)]
      refine ⟨?_, fun a => by rw [peekV_load]; exact hpv a, ?_, fun _ => load_k _ _ _⟩
      · show (⟨(k : Int) + 1, 0, decide (F 2 ≤ (k : Int) + 1)⟩ : RvM) = _
        rw [Nat.min_eq_left (show k + 1 ≤ l by omega), hL]
        have : decide ((l : Int) ≤ (k : Int) + 1) = decide (l ≤ k + 1) := by
          by_cases h : l ≤ k + 1
          · rw [decide_eq_true h, decide_eq_true (by omega)]
          · rw [decide_eq_false h, decide_eq_false (by omega)]
        rw [this]
        congr 1
      · show (s.load th (logN F th k)).clock = _
        rw [(load_parts s th (logN F th k)).2.2, hc, Nat.min_eq_left (show k + 1 ≤ l by omega)]
        omega
/-- The first empty place among the last m ones, -1 if there is none. -/
def wantD (lg : List Int) (l : Nat) : Nat → Int
  | 0 => -1
  | m + 1 => if lg.getD (l - (m + 1)) 0 = 0 then ((l - (m + 1) : Nat) : Int) else wantD lg l m
theorem wantD_spec (lg : List Int) (l : Nat) : ∀ m : Nat, m ≤ l → (wantD lg l m = -1 ∧ ∀ n, l - m ≤ n → n < l → lg.getD n 0 ≠ 0) ∨ (∃ p : Nat, wantD lg l m = (p : Int) ∧ l - m ≤ p ∧ p < l ∧ lg.getD p 0 = 0 ∧ ∀ n, l - m ≤ n → n < p → lg.getD n 0 ≠ 0)
  | 0, _ => Or.inl ⟨rfl, fun n h1 h2 => absurd h1 (by omega)⟩
  | m + 1, hm => by
    by_cases h : lg.getD (l - (m + 1)) 0 = 0
    · exact Or.inr ⟨l - (m + 1), by unfold wantD; rw [if_pos h], Nat.le_refl _, by omega, h, fun n h1 h2 => absurd h1 (by omega)⟩
    · have e : wantD lg l (m + 1) = wantD lg l m := by
        show (if lg.getD (l - (m + 1)) 0 = 0 then ((l - (m + 1) : Nat) : Int) else wantD lg l m) = _
        rw [if_neg h]
      have hn : ∀ n, l - (m + 1) ≤ n → ¬ l - m ≤ n → lg.getD n 0 ≠ 0 := fun n h1 h2 => by
        have : n = l - (m + 1) := by omega
        rw [this]
        exact h
      rcases wantD_spec lg l m (by omega) with ⟨h1, h2⟩ | ⟨p, h1, h2, h3, h4, h5⟩
      · refine Or.inl ⟨e.trans h1, fun n a b => ?_⟩
        by_cases c : l - m ≤ n
        · exact h2 n c b
        · exact hn n a c
      · refine Or.inr ⟨p, e.trans h1, by omega, h3, h4, fun n a b => ?_⟩
        by_cases c : l - m ≤ n
        · exact h5 n c b
        · exact hn n a c
/-- The log's words are those that the law keeps. -/
def PlAt (F : Nat → Int) (th : Int) (l : Nat) (lg : List Int) (st : MSt) : Prop := lg.length = l ∧ ∀ n : Nat, n < l → peekV st (logN F th n) = lg.getD n 0
theorem ent_m1 (a : Int) (h0 : 0 ≤ a) (h1 : a < 1000000) : entN a (-1) = a + 1 := by
  unfold entN
  omega
theorem getD_set2 (lg : List Int) (p n : Nat) (x : Int) (hp : p < lg.length) : (lg.set p x).getD n 0 = if n = p then x else lg.getD n 0 := by
  rw [List.getD_eq_getElem?_getD, List.getElem?_set]
  by_cases e : p = n
  · subst e
    rw [if_pos rfl, if_pos hp, if_pos rfl]
    rfl
  · rw [if_neg e, if_neg (fun h => e h.symm), List.getD_eq_getElem?_getD]
section
variable {t s l b th P N : Nat} {lg : List Int} {st : MSt}
/-- A place that is set. -/
theorem PlAt.set {st' : MSt} (hth : th < t) (h : PlAt (layF t s l b) th l lg st) (p : Nat) (hp : p < l) (x : Int) (hv : ∀ a, peekV st' a = if a = logN (layF t s l b) th p then x else peekV st a) : PlAt (layF t s l b) th l (lg.set p x) st' := by
  refine ⟨by rw [List.length_set]; exact h.1, fun n hn => ?_⟩
  rw [hv, getD_set2 _ _ _ _ (by rw [h.1]; exact hp)]
  by_cases e : n = p
  · rw [e, if_pos rfl, if_pos rfl]
  · rw [if_neg e, if_neg (fun h2 => e (log_inj (t := t) hth hn hp h2))]
    exact h.2 n hn
/-- What is cancelled is empty. -/
theorem PlAt.cancel (hth : th < t) (h : PlAt (layF t s l b) th l lg st) (ok : MOk (2 + t + s) (wN t s l b) st) (p : Nat) (hp : p < l) : PlAt (layF t s l b) th l (lg.set p 0) (st.store th (logN (layF t s l b) th p) 0) := by
  have hr := log_in (t := t) (s := s) (l := l) (b := b) hth hp
  exact h.set hth p hp 0 (fun a => peekV_store ok (ok.is (by omega) hr.2) _ _ _)
/-- **WHAT A RESERVE LEAVES, l + 4 STEPS LATER.** -/
theorem PlAt.reserve (hth : th < t) (h0 : 0 < l) (h : PlAt (layF t s l b) th l lg st) (ok : MOk (2 + t + s) (wN t s l b) st) (slot : Int) (hs : 0 ≤ slot ∧ slot < 1000000) :
    (stepsR (rvS (layF t s l b) th slot) (⟨0, 0, false⟩, st) (l + 4)).1.dn = true ∧ (stepsR (rvS (layF t s l b) th slot) (⟨0, 0, false⟩, st) (l + 4)).1.tells (l : Int) = wantD lg l l ∧
      PlAt (layF t s l b) th l (if 0 ≤ wantD lg l l then lg.set (wantD lg l l).toNat (slot + 1) else lg) (stepsR (rvS (layF t s l b) th slot) (⟨0, 0, false⟩, st) (l + 4)).2 := by
  have hL : layF t s l b 2 = (l : Int) := rfl
  rcases wantD_spec lg l l (Nat.le_refl l) with ⟨h1, h2⟩ | ⟨p, h1, h2, h3, h4, h5⟩
  · have hf := full_run2 (slot := slot) (F := layF t s l b) (th := th) (st := st) hL h0 (fun n hn => by rw [h.2 n hn]; exact h2 n (by omega) hn) (l + 4)
    obtain ⟨x1, x2, -, -⟩ := hf
    rw [Nat.min_eq_right (show l ≤ l + 4 by omega), decide_eq_true (show l ≤ l + 4 by omega)] at x1
    rw [h1, x1]
    refine ⟨rfl, ?_, ?_⟩
    · show (if true = true ∧ (l : Int) < (l : Int) then (l : Int) else -1) = -1
      rw [if_neg (fun h => Int.lt_irrefl _ h.2)]
    · rw [if_neg (by omega)]
      exact ⟨h.1, fun n hn => by rw [x2]; exact h.2 n hn⟩
  · have hr := log_in (t := t) (s := s) (l := l) (b := b) hth h3
    obtain ⟨r1, r2, r3⟩ := res_free (F := layF t s l b) (th := th) (slot := slot) hL ok p h3 (fun n hn => by rw [h.2 n (by omega)]; exact h5 n (by omega) hn) (by rw [h.2 p h3]; exact h4) ⟨by omega, hr.2⟩ (l - p)
    rw [show p + 4 + (l - p) = l + 4 by omega] at r1 r2 r3
    rw [h1, r1]
    refine ⟨rfl, ?_, ?_⟩
    · show (if true = true ∧ (p : Int) < (l : Int) then (p : Int) else -1) = (p : Int)
      rw [if_pos ⟨rfl, by omega⟩]
    · rw [if_pos (by omega), Int.toNat_natCast]
      exact h.set hth p h3 (slot + 1) (fun a => by rw [r2, ent_m1 slot hs.1 hs.2])
end
end Go.Proofs.YtndplpfbohigpaaGreat
