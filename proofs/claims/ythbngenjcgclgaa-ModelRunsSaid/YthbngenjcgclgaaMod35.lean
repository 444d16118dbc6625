/- Layer 8: plain mathematics: sets and maps that rise; operations that may be done in either order. Conditions: those that each theorem names. -/
import Derived.Test.YthbngenjcgclgaaMod34
namespace Go.Proofs.Ythbngenjcgclgaa
set_option linter.unusedVariables false
/-- Lists in order with the same members are the same. -/
theorem pw_ext {α : Type} {R : α → α → Prop} (hirr : ∀ x, ¬ R x x) (hasym : ∀ x y, R x y → ¬ R y x) : ∀ (l m : List α), l.Pairwise R → m.Pairwise R → (∀ x, x ∈ l ↔ x ∈ m) → l = m
  | [], [], _, _, _ => rfl
  | [], y :: m, _, _, h => absurd ((h y).2 (by simp)) (by simp)
  | x :: l, [], _, _, h => absurd ((h x).1 (by simp)) (by simp)
  | x :: l, y :: m, hl, hm, h => by
    have hl' := List.pairwise_cons.1 hl
    have hm' := List.pairwise_cons.1 hm
    have hxy : x = y := by
      have h1 : x ∈ y :: m := (h x).1 (by simp)
      have h2 : y ∈ x :: l := (h y).2 (by simp)
      rcases List.mem_cons.1 h1 with e | e
      · exact e
      · rcases List.mem_cons.1 h2 with e' | e'
        · exact e'.symm
        · exact absurd (hm'.1 x e) (hasym _ _ (hl'.1 y e'))
    subst hxy
    rw [pw_ext hirr hasym l m hl'.2 hm'.2 (fun z => ⟨fun hz => by
      rcases List.mem_cons.1 ((h z).1 (List.mem_cons_of_mem _ hz)) with e | e
      · subst e; exact absurd (hl'.1 z hz) (hirr z)
      · exact e, fun hz => by
      rcases List.mem_cons.1 ((h z).2 (List.mem_cons_of_mem _ hz)) with e | e
      · subst e; exact absurd (hm'.1 z hz) (hirr z)
      · exact e⟩)]
theorem upI_pw : ∀ l : List Int, upI l = true ↔ l.Pairwise (· < ·)
  | [] => by simp [upI]
  | [a] => by simp [upI]
  | a :: b :: l => by
    have ih := upI_pw (b :: l)
    unfold upI
    rw [Bool.and_eq_true, ih, List.pairwise_cons (a := a)]
    constructor
    · rintro ⟨h1, h2⟩
      have h1' : a < b := by simpa using h1
      refine ⟨fun x hx => ?_, h2⟩
      rcases List.mem_cons.1 hx with e | e
      · rw [e]; exact h1'
      · have := (List.pairwise_cons.1 h2).1 x e; omega
    · rintro ⟨h1, h2⟩
      exact ⟨by simpa using h1 b (by simp), h2⟩
theorem upP_pw (l : List Pr) : upP l = true ↔ l.Pairwise (fun p q => p.1 < q.1) := by
  unfold upP
  rw [upI_pw]
  unfold keysP
  rw [List.pairwise_map]
theorem hasI_mem : ∀ (l : List Int) (k : Int), hasI l k = true ↔ k ∈ l
  | [], _ => by simp [hasI]
  | p :: l, k => by
    unfold hasI
    by_cases h : p = k
    · simp [h]
    · rw [if_neg h, hasI_mem l k, List.mem_cons]
      exact ⟨Or.inr, fun e => e.resolve_left (fun e => h e.symm)⟩
theorem hasP_mem : ∀ (l : List Pr) (k : Int), hasP l k = true ↔ ∃ v, (k, v) ∈ l
  | [], _ => by simp [hasP]
  | p :: l, k => by
    unfold hasP
    by_cases h : p.1 = k
    · rw [if_pos h]
      exact ⟨fun _ => ⟨p.2, by rw [← h]; simp⟩, fun _ => rfl⟩
    · rw [if_neg h, hasP_mem l k]
      constructor
      · rintro ⟨v, hv⟩; exact ⟨v, List.mem_cons_of_mem _ hv⟩
      · rintro ⟨v, hv⟩
        rcases List.mem_cons.1 hv with e | e
        · exact absurd (by rw [← e]) h
        · exact ⟨v, e⟩
theorem findP_mem : ∀ (l : List Pr) (k v : Int), l.Pairwise (fun p q => p.1 < q.1) → (k, v) ∈ l → findP l k = (k, v)
  | [], _, _, _, h => absurd h (by simp)
  | p :: l, k, v, hp, h => by
    have hp' := List.pairwise_cons.1 hp
    unfold findP
    rcases List.mem_cons.1 h with e | e
    · rw [← e, if_pos rfl]
    · have h1 := hp'.1 _ e
      simp only at h1
      rw [if_neg (by omega)]
      exact findP_mem l k v hp'.2 e
theorem findP_no : ∀ (l : List Pr) (k : Int), hasP l k = false → findP l k = (0, 0)
  | [], _, _ => rfl
  | p :: l, k, h => by
    unfold hasP at h
    unfold findP
    by_cases e : p.1 = k
    · rw [if_pos e] at h; cases h
    · rw [if_neg e] at h ⊢
      exact findP_no l k h
/-- A number put where it belongs. -/
def sortI : List Int → Int → List Int
  | [], a => [a]
  | x :: l, a => if a < x then a :: x :: l else x :: sortI l a
theorem posI_cons (x : Int) (l : List Int) (a : Int) : posI (x :: l) a = if a < x then 0 else posI l a + 1 := by
  have e : idxPI (x :: l) (PutI a) = if PutI a x = true then 0 else if idxPI l (PutI a) = -1 then -1 else idxPI l (PutI a) + 1 := rfl
  have ge := idxPI_ge (PutI a) l
  unfold posI
  by_cases h : a < x
  · have hf : PutI a x = true := decide_eq_true h
    have e2 : idxPI (x :: l) (PutI a) = 0 := by rw [e, hf]; rfl
    rw [e2, if_neg (by omega), if_pos h]
    rfl
  · have hf : PutI a x = false := decide_eq_false h
    have e2 : idxPI (x :: l) (PutI a) = if idxPI l (PutI a) = -1 then -1 else idxPI l (PutI a) + 1 := by rw [e, hf]; rfl
    rw [e2, if_neg h]
    by_cases hi : idxPI l (PutI a) = -1
    · rw [if_pos hi, if_pos rfl, if_pos hi]
      rfl
    · rw [if_neg hi, if_neg (by omega), if_neg hi]
      omega
theorem posP_cons (x : Pr) (l : List Pr) (a : Int) : posP (x :: l) a = if a < x.1 then 0 else posP l a + 1 := by
  have e : idxP (x :: l) (PutP a) = if PutP a x = true then 0 else if idxP l (PutP a) = -1 then -1 else idxP l (PutP a) + 1 := rfl
  have ge := idxP_ge (PutP a) l
  unfold posP
  by_cases h : a < x.1
  · have hf : PutP a x = true := decide_eq_true h
    have e2 : idxP (x :: l) (PutP a) = 0 := by rw [e, hf]; rfl
    rw [e2, if_neg (by omega), if_pos h]
    rfl
  · have hf : PutP a x = false := decide_eq_false h
    have e2 : idxP (x :: l) (PutP a) = if idxP l (PutP a) = -1 then -1 else idxP l (PutP a) + 1 := by rw [e, hf]; rfl
    rw [e2, if_neg h]
    by_cases hi : idxP l (PutP a) = -1
    · rw [if_pos hi, if_pos rfl, if_pos hi]
      rfl
    · rw [if_neg hi, if_neg (by omega), if_neg hi]
      omega
theorem insI_sort : ∀ (l : List Int) (a : Int), insI l (posI l a) a = sortI l a
  | [], a => rfl
  | x :: l, a => by
    rw [posI_cons]
    unfold sortI
    by_cases h : a < x
    · rw [if_pos h, if_pos h]; rfl
    · rw [if_neg h, if_neg h, ← insI_sort l a]; rfl
def sortP : List Pr → Pr → List Pr
  | [], a => [a]
  | x :: l, a => if a.1 < x.1 then a :: x :: l else x :: sortP l a
theorem insP_sort : ∀ (l : List Pr) (a : Pr), insP l (posP l a.1) a = sortP l a
  | [], a => rfl
  | x :: l, a => by
    rw [posP_cons]
    unfold sortP
    by_cases h : a.1 < x.1
    · rw [if_pos h, if_pos h]; rfl
    · rw [if_neg h, if_neg h, ← insP_sort l a]; rfl
theorem sortI_mem : ∀ (l : List Int) (a x : Int), x ∈ sortI l a ↔ x = a ∨ x ∈ l
  | [], a, x => by simp [sortI]
  | y :: l, a, x => by
    unfold sortI
    split
    · simp
    · rw [List.mem_cons, sortI_mem l a x, List.mem_cons]
      constructor
      · rintro (h | h | h)
        · exact Or.inr (Or.inl h)
        · exact Or.inl h
        · exact Or.inr (Or.inr h)
      · rintro (h | h | h)
        · exact Or.inr (Or.inl h)
        · exact Or.inl h
        · exact Or.inr (Or.inr h)
theorem sortP_mem : ∀ (l : List Pr) (a x : Pr), x ∈ sortP l a ↔ x = a ∨ x ∈ l
  | [], a, x => by simp [sortP]
  | y :: l, a, x => by
    unfold sortP
    split
    · simp
    · rw [List.mem_cons, sortP_mem l a x, List.mem_cons]
      constructor
      · rintro (h | h | h)
        · exact Or.inr (Or.inl h)
        · exact Or.inl h
        · exact Or.inr (Or.inr h)
      · rintro (h | h | h)
        · exact Or.inr (Or.inl h)
        · exact Or.inl h
        · exact Or.inr (Or.inr h)
theorem sortI_pw : ∀ (l : List Int) (a : Int), l.Pairwise (· < ·) → a ∉ l → (sortI l a).Pairwise (· < ·)
  | [], a, _, _ => by simp [sortI]
  | y :: l, a, hp, hn => by
    have hp' := List.pairwise_cons.1 hp
    have hn' : a ≠ y ∧ a ∉ l := by simpa using hn
    unfold sortI
    split
    · rename_i h
      refine List.pairwise_cons.2 ⟨fun x hx => ?_, hp⟩
      rcases List.mem_cons.1 hx with e | e
      · rw [e]; exact h
      · have := hp'.1 x e; omega
    · rename_i h
      refine List.pairwise_cons.2 ⟨fun x hx => ?_, sortI_pw l a hp'.2 hn'.2⟩
      rcases (sortI_mem l a x).1 hx with e | e
      · have := hn'.1; omega
      · exact hp'.1 x e
theorem sortP_pw : ∀ (l : List Pr) (a : Pr), l.Pairwise (fun p q => p.1 < q.1) → (∀ x ∈ l, x.1 ≠ a.1) → (sortP l a).Pairwise (fun p q => p.1 < q.1)
  | [], a, _, _ => by simp [sortP]
  | y :: l, a, hp, hn => by
    have hp' := List.pairwise_cons.1 hp
    have h0 := hn y (by simp)
    unfold sortP
    split
    · rename_i h
      refine List.pairwise_cons.2 ⟨fun x hx => ?_, hp⟩
      rcases List.mem_cons.1 hx with e | e
      · rw [e]; exact h
      · have := hp'.1 x e; omega
    · rename_i h
      refine List.pairwise_cons.2 ⟨fun x hx => ?_, sortP_pw l a hp'.2 (fun x hx => hn x (List.mem_cons_of_mem _ hx))⟩
      rcases (sortP_mem l a x).1 hx with e | e
      · rw [e]; omega
      · exact hp'.1 x e
theorem leftI_mem (l : List Int) (a x : Int) : x ∈ leftI (CutI a) l ↔ x ∈ l ∧ x ≠ a := by
  unfold leftI CutI
  simp
theorem left_mem (l : List Pr) (a : Int) (x : Pr) : x ∈ left (CutP a) l ↔ x ∈ l ∧ x.1 ≠ a := by
  unfold left CutP
  simp
theorem leftI_pw (l : List Int) (f : Int → Bool) (h : l.Pairwise (· < ·)) : (leftI f l).Pairwise (· < ·) := List.Pairwise.filter _ h
theorem left_pw (l : List Pr) (f : Pr → Bool) (h : l.Pairwise (fun p q => p.1 < q.1)) : (left f l).Pairwise (fun p q => p.1 < q.1) := List.Pairwise.filter _ h
/-- What is done to a set, and told. -/
def doT (s : List Int) (k a : Int) : List Int × Rs :=
  if k = 3 then (if hasI s a = true then (s, (3, 0)) else (insI s (posI s a) a, (1, 0)))
  else if k = 4 then (leftI (CutI a) s, (toldK (hasI s a) 1 4, 0)) else (s, (toldK (hasI s a) 3 4, 0))
def doM (m : List Pr) (k a b : Int) : List Pr × Rs :=
  if k = 6 then (if hasP m a = true then (m, (3, (findP m a).2)) else (insP m (posP m a) (a, b), (1, 0)))
  else if k = 8 then (left (CutP a) m, (toldK (hasP m a) 1 4, toldK (hasP m a) (findP m a).2 0)) else (m, (toldK (hasP m a) 3 4, toldK (hasP m a) (findP m a).2 0))
def doQ (q : List Int) (k b : Int) : List Int × Rs :=
  if k = 1 then (q ++ [b], (1, 0)) else (match q with
    | [] => ([], (2, 0))
    | z :: zs => (zs, (1, z)))
/-- The part of a kind. -/
def partK (k : Int) : Int := if k = 1 ∨ k = 2 then 1 else if k = 3 ∨ k = 4 ∨ k = 5 then 2 else if k = 6 ∨ k = 7 ∨ k = 8 then 3 else 0
theorem doS_q (st : Sta) (k a b : Int) (h : partK k = 1) : doS st k a b = (⟨(doQ st.q k b).1, st.s, st.m⟩, (doQ st.q k b).2) := by
  unfold partK at h
  obtain ⟨q, s, m⟩ := st
  have hk : k = 1 ∨ k = 2 := by
    (repeat' split at h) <;> omega
  rcases hk with rfl | rfl
  · rfl
  · cases q <;> rfl
theorem doS_s (st : Sta) (k a b : Int) (h : partK k = 2) : doS st k a b = (⟨st.q, (doT st.s k a).1, st.m⟩, (doT st.s k a).2) := by
  unfold partK at h
  obtain ⟨q, s, m⟩ := st
  have hk : k = 3 ∨ k = 4 ∨ k = 5 := by
    (repeat' split at h) <;> omega
  rcases hk with rfl | rfl | rfl
  · unfold doS doT
    by_cases hh : hasI s a = true
    · simp [hh]
    · simp [hh]
  · rfl
  · rfl
theorem doS_m (st : Sta) (k a b : Int) (h : partK k = 3) : doS st k a b = (⟨st.q, st.s, (doM st.m k a b).1⟩, (doM st.m k a b).2) := by
  unfold partK at h
  obtain ⟨q, s, m⟩ := st
  have hk : k = 6 ∨ k = 7 ∨ k = 8 := by
    (repeat' split at h) <;> omega
  rcases hk with rfl | rfl | rfl
  · unfold doS doM
    by_cases hh : hasP m a = true
    · simp [hh]
    · simp [hh]
  · rfl
  · rfl
theorem doS_0 (st : Sta) (k a b : Int) (h : partK k = 0) : doS st k a b = (st, (0, 0)) := by
  unfold partK at h
  have h' : k ≠ 1 ∧ k ≠ 2 ∧ k ≠ 3 ∧ k ≠ 4 ∧ k ≠ 5 ∧ k ≠ 6 ∧ k ≠ 7 ∧ k ≠ 8 := by
    (repeat' split at h) <;> omega
  unfold doS
  simp [h'.1, h'.2.1, h'.2.2.1, h'.2.2.2.1, h'.2.2.2.2.1, h'.2.2.2.2.2.1, h'.2.2.2.2.2.2.1, h'.2.2.2.2.2.2.2]
theorem partK_or (k : Int) : partK k = 0 ∨ partK k = 1 ∨ partK k = 2 ∨ partK k = 3 := by
  unfold partK
  split
  · simp
  · split
    · simp
    · split <;> simp
/-- Who is a member behind it. -/
theorem doT_mem (s : List Int) (k a x : Int) (hx : x ≠ a) : x ∈ (doT s k a).1 ↔ x ∈ s := by
  unfold doT
  split
  · split
    · exact Iff.rfl
    · rw [insI_sort]
      rw [sortI_mem]
      simp [hx]
  · split
    · rw [leftI_mem]
      simp [hx]
    · exact Iff.rfl
theorem doT_pw (s : List Int) (k a : Int) (h : s.Pairwise (· < ·)) : (doT s k a).1.Pairwise (· < ·) := by
  unfold doT
  split
  · split
    · exact h
    · rename_i hh
      rw [insI_sort]
      exact sortI_pw s a h (fun hm => hh ((hasI_mem s a).2 hm))
  · split
    · exact leftI_pw s _ h
    · exact h
/-- Whether the key itself is a member behind it hangs only on whether it was one. -/
theorem doT_own (s s' : List Int) (k a : Int) (h : a ∈ s ↔ a ∈ s') : (a ∈ (doT s k a).1 ↔ a ∈ (doT s' k a).1) ∧ (doT s k a).2 = (doT s' k a).2 := by
  have hb : hasI s a = hasI s' a := by
    have h1 := hasI_mem s a
    have h2 := hasI_mem s' a
    rw [h] at h1
    exact Bool.eq_iff_iff.2 (h1.trans h2.symm)
  unfold doT
  rw [hb]
  split
  · split
    · exact ⟨h, rfl⟩
    · refine ⟨?_, rfl⟩
      show (a ∈ insI s (posI s a) a ↔ a ∈ insI s' (posI s' a) a)
      rw [insI_sort, insI_sort, sortI_mem, sortI_mem]
      simp
  · split
    · refine ⟨?_, rfl⟩
      show (a ∈ leftI (CutI a) s ↔ a ∈ leftI (CutI a) s')
      rw [leftI_mem, leftI_mem]
      simp
    · exact ⟨h, rfl⟩
theorem doT_turn (s : List Int) (k a k' a' : Int) (hp : s.Pairwise (· < ·)) (h : a ≠ a') :
    (doT (doT s k a).1 k' a').1 = (doT (doT s k' a').1 k a).1 ∧ (doT (doT s k a).1 k' a').2 = (doT s k' a').2 := by
  have h1 := doT_own (doT s k a).1 s k' a' (doT_mem s k a a' (fun e => h e.symm))
  have h2 := doT_own (doT s k' a').1 s k a (doT_mem s k' a' a h)
  refine ⟨pw_ext (R := (· < ·)) (fun x => by omega) (fun x y => by omega) _ _ (doT_pw _ _ _ (doT_pw _ _ _ hp)) (doT_pw _ _ _ (doT_pw _ _ _ hp)) (fun x => ?_), h1.2⟩
  by_cases e1 : x = a
  · subst e1
    rw [doT_mem _ k' a' x h]
    exact h2.1.symm
  · by_cases e2 : x = a'
    · subst e2
      rw [doT_mem _ k a x e1]
      exact h1.1
    · rw [doT_mem _ k' a' x e2, doT_mem _ k a x e1, doT_mem _ k a x e1, doT_mem _ k' a' x e2]
theorem doM_mem (m : List Pr) (k a b : Int) (x : Pr) (hx : x.1 ≠ a) : x ∈ (doM m k a b).1 ↔ x ∈ m := by
  unfold doM
  split
  · split
    · exact Iff.rfl
    · rw [insP_sort m (a, b), sortP_mem]
      have : x ≠ (a, b) := fun e => hx (by rw [e])
      simp [this]
  · split
    · rw [left_mem]
      simp [hx]
    · exact Iff.rfl
theorem doM_pw (m : List Pr) (k a b : Int) (h : m.Pairwise (fun p q => p.1 < q.1)) : (doM m k a b).1.Pairwise (fun p q => p.1 < q.1) := by
  unfold doM
  split
  · split
    · exact h
    · rename_i hh
      rw [insP_sort m (a, b)]
      exact sortP_pw m (a, b) h (fun x hx e => hh ((hasP_mem m a).2 ⟨x.2, by rw [← (show x.1 = a from e)]; exact hx⟩))
  · split
    · exact left_pw m _ h
    · exact h
theorem has_same (m m' : List Pr) (a : Int) (h : ∀ v, (a, v) ∈ m ↔ (a, v) ∈ m') : hasP m a = hasP m' a := by
  rw [Bool.eq_iff_iff, hasP_mem, hasP_mem]
  exact ⟨fun ⟨v, hv⟩ => ⟨v, (h v).1 hv⟩, fun ⟨v, hv⟩ => ⟨v, (h v).2 hv⟩⟩
theorem find_same (m m' : List Pr) (a : Int) (hp : m.Pairwise (fun p q => p.1 < q.1)) (hp' : m'.Pairwise (fun p q => p.1 < q.1)) (h : ∀ v, (a, v) ∈ m ↔ (a, v) ∈ m') : findP m a = findP m' a := by
  have hs := has_same m m' a h
  by_cases hh : hasP m a = true
  · obtain ⟨v, hv⟩ := (hasP_mem m a).1 hh
    rw [findP_mem m a v hp hv, findP_mem m' a v hp' ((h v).1 hv)]
  · have hf : hasP m a = false := by simpa using hh
    rw [findP_no m a hf, findP_no m' a (by rw [← hs]; exact hf)]
theorem doM_own (m m' : List Pr) (k a b : Int) (hp : m.Pairwise (fun p q => p.1 < q.1)) (hp' : m'.Pairwise (fun p q => p.1 < q.1)) (h : ∀ v, (a, v) ∈ m ↔ (a, v) ∈ m') : (∀ v, (a, v) ∈ (doM m k a b).1 ↔ (a, v) ∈ (doM m' k a b).1) ∧ (doM m k a b).2 = (doM m' k a b).2 := by
  have hb := has_same m m' a h
  have hf := find_same m m' a hp hp' h
  unfold doM
  rw [hb, hf]
  split
  · split
    · exact ⟨h, rfl⟩
    · refine ⟨fun v => ?_, rfl⟩
      show ((a, v) ∈ insP m (posP m a) (a, b) ↔ (a, v) ∈ insP m' (posP m' a) (a, b))
      rw [insP_sort m (a, b), insP_sort m' (a, b), sortP_mem, sortP_mem, h v]
  · split
    · refine ⟨fun v => ?_, rfl⟩
      show ((a, v) ∈ left (CutP a) m ↔ (a, v) ∈ left (CutP a) m')
      rw [left_mem, left_mem]
      simp
    · exact ⟨h, rfl⟩
theorem doM_turn (m : List Pr) (k a b k' a' b' : Int) (hp : m.Pairwise (fun p q => p.1 < q.1)) (h : a ≠ a') :
    (doM (doM m k a b).1 k' a' b').1 = (doM (doM m k' a' b').1 k a b).1 ∧ (doM (doM m k a b).1 k' a' b').2 = (doM m k' a' b').2 := by
  have h1 := doM_own (doM m k a b).1 m k' a' b' (doM_pw _ _ _ _ hp) hp (fun v => doM_mem m k a b (a', v) (fun e => h e.symm))
  have h2 := doM_own (doM m k' a' b').1 m k a b (doM_pw _ _ _ _ hp) hp (fun v => doM_mem m k' a' b' (a, v) h)
  refine ⟨pw_ext (R := fun p q : Pr => p.1 < q.1) (fun x => by omega) (fun x y => by omega) _ _ (doM_pw _ _ _ _ (doM_pw _ _ _ _ hp)) (doM_pw _ _ _ _ (doM_pw _ _ _ _ hp)) (fun x => ?_), h1.2⟩
  obtain ⟨x1, x2⟩ := x
  by_cases e1 : x1 = a
  · subst e1
    rw [doM_mem _ k' a' b' (x1, x2) h]
    exact (h2.1 x2).symm
  · by_cases e2 : x1 = a'
    · subst e2
      rw [doM_mem _ k a b (x1, x2) e1]
      exact h1.1 x2
    · rw [doM_mem _ k' a' b' (x1, x2) e2, doM_mem _ k a b (x1, x2) e1, doM_mem _ k a b (x1, x2) e1, doM_mem _ k' a' b' (x1, x2) e2]
theorem upS_do (st : Sta) (k a b : Int) (h : upS st = true) : upS (doS st k a b).1 = true := by
  unfold upS at h ⊢
  rw [Bool.and_eq_true] at h ⊢
  rw [upI_pw, upP_pw] at h ⊢
  rcases partK_or k with e | e | e | e
  · rw [doS_0 st k a b e]; exact h
  · rw [doS_q st k a b e]; exact h
  · rw [doS_s st k a b e]; exact ⟨doT_pw _ _ _ h.1, h.2⟩
  · rw [doS_m st k a b e]; exact ⟨h.1, doM_pw _ _ _ _ h.2⟩
theorem looks_do (st : Sta) (k a b : Int) (h : looksB k = true) : (doS st k a b).1 = st := by
  unfold looksB at h
  have : k = 5 ∨ k = 7 := by simpa using h
  rcases this with rfl | rfl <;> rfl
theorem kind_part (k : Int) (h : kindB k = true) : partL.getD k.toNat 0 = partK k ∧ partK k ≠ 0 := by
  have h' : 1 ≤ k ∧ k ≤ 8 := by unfold kindB at h; simpa using h
  have : k = 1 ∨ k = 2 ∨ k = 3 ∨ k = 4 ∨ k = 5 ∨ k = 6 ∨ k = 7 ∨ k = 8 := by omega
  rcases this with rfl | rfl | rfl | rfl | rfl | rfl | rfl | rfl <;> exact ⟨by decide, by decide⟩
theorem kind_none (k : Int) (h : ¬ kindB k = true) : partK k = 0 := by
  have h' : ¬ (1 ≤ k ∧ k ≤ 8) := fun e => h (by unfold kindB; simpa using e)
  unfold partK
  rw [if_neg (by omega), if_neg (by omega), if_neg (by omega)]
/-- Operations that are apart may be done in either order. -/
theorem apart_turn (st : Sta) (ka a b kb a' b' : Int) (hu : upS st = true) (h : apartB ka a kb a' = true) :
    (doS (doS st ka a b).1 kb a' b').1 = (doS (doS st kb a' b').1 ka a b).1 ∧ (doS (doS st ka a b).1 kb a' b').2 = (doS st kb a' b').2 ∧ (doS (doS st kb a' b').1 ka a b).2 = (doS st ka a b).2 := by
  unfold upS at hu
  rw [Bool.and_eq_true, upI_pw, upP_pw] at hu
  have main : partK ka ≠ partK kb ∨ partK ka = 0 ∨ partK kb = 0 ∨ (1 < partK ka ∧ a ≠ a') ∨ (looksB ka = true ∧ looksB kb = true) := by
    unfold apartB at h
    by_cases h1 : kindB ka = true
    · by_cases h2 : kindB kb = true
      · obtain ⟨p1, _⟩ := kind_part ka h1
        obtain ⟨p2, _⟩ := kind_part kb h2
        rw [p1, p2] at h
        by_cases h3 : partK ka = partK kb
        · rw [if_pos ⟨h1, h2, h3⟩] at h
          rw [Bool.or_eq_true, Bool.and_eq_true, Bool.and_eq_true] at h
          rcases h with ⟨h4, h5⟩ | h4
          · exact Or.inr (Or.inr (Or.inr (Or.inl ⟨by simpa using h4, by simpa using h5⟩)))
          · exact Or.inr (Or.inr (Or.inr (Or.inr h4)))
        · exact Or.inl h3
      · exact Or.inr (Or.inr (Or.inl (kind_none kb h2)))
    · exact Or.inr (Or.inl (kind_none ka h1))
  rcases main with h1 | h1 | h1 | ⟨h1, h2⟩ | ⟨h1, h2⟩
  · rcases partK_or ka with ea | ea | ea | ea <;> rcases partK_or kb with eb | eb | eb | eb
    all_goals first
      | (exfalso; omega)
      | (refine ⟨?_, ?_, ?_⟩ <;> simp only [doS_0 _ _ _ _ ea, doS_0 _ _ _ _ eb])
      | (refine ⟨?_, ?_, ?_⟩ <;> simp only [doS_0 _ _ _ _ ea, doS_q _ _ _ _ eb])
      | (refine ⟨?_, ?_, ?_⟩ <;> simp only [doS_0 _ _ _ _ ea, doS_s _ _ _ _ eb])
      | (refine ⟨?_, ?_, ?_⟩ <;> simp only [doS_0 _ _ _ _ ea, doS_m _ _ _ _ eb])
      | (refine ⟨?_, ?_, ?_⟩ <;> simp only [doS_q _ _ _ _ ea, doS_0 _ _ _ _ eb])
      | (refine ⟨?_, ?_, ?_⟩ <;> simp only [doS_s _ _ _ _ ea, doS_0 _ _ _ _ eb])
      | (refine ⟨?_, ?_, ?_⟩ <;> simp only [doS_m _ _ _ _ ea, doS_0 _ _ _ _ eb])
      | (refine ⟨?_, ?_, ?_⟩ <;> simp only [doS_q _ _ _ _ ea, doS_s _ _ _ _ eb])
      | (refine ⟨?_, ?_, ?_⟩ <;> simp only [doS_q _ _ _ _ ea, doS_m _ _ _ _ eb])
      | (refine ⟨?_, ?_, ?_⟩ <;> simp only [doS_s _ _ _ _ ea, doS_q _ _ _ _ eb])
      | (refine ⟨?_, ?_, ?_⟩ <;> simp only [doS_s _ _ _ _ ea, doS_m _ _ _ _ eb])
      | (refine ⟨?_, ?_, ?_⟩ <;> simp only [doS_m _ _ _ _ ea, doS_q _ _ _ _ eb])
      | (refine ⟨?_, ?_, ?_⟩ <;> simp only [doS_m _ _ _ _ ea, doS_s _ _ _ _ eb])
  · simp only [doS_0 _ _ _ _ h1]
    exact ⟨trivial, trivial, trivial⟩
  · simp only [doS_0 _ _ _ _ h1]
    exact ⟨trivial, trivial, trivial⟩
  · by_cases hk : partK ka = partK kb
    · rcases partK_or ka with ea | ea | ea | ea
      · omega
      · omega
      · have eb : partK kb = 2 := by omega
        simp only [doS_s _ _ _ _ ea, doS_s _ _ _ _ eb]
        have t1 := doT_turn st.s ka a kb a' hu.1 h2
        have t2 := doT_turn st.s kb a' ka a hu.1 (fun e => h2 e.symm)
        rw [t1.1]
        exact ⟨rfl, t1.2, t2.2⟩
      · have eb : partK kb = 3 := by omega
        simp only [doS_m _ _ _ _ ea, doS_m _ _ _ _ eb]
        have t1 := doM_turn st.m ka a b kb a' b' hu.2 h2
        have t2 := doM_turn st.m kb a' b' ka a b hu.2 (fun e => h2 e.symm)
        rw [t1.1]
        exact ⟨rfl, t1.2, t2.2⟩
    · rcases partK_or ka with ea | ea | ea | ea <;> rcases partK_or kb with eb | eb | eb | eb
      all_goals first
        | (exfalso; omega)
        | (refine ⟨?_, ?_, ?_⟩ <;> simp only [doS_s _ _ _ _ ea, doS_0 _ _ _ _ eb])
        | (refine ⟨?_, ?_, ?_⟩ <;> simp only [doS_m _ _ _ _ ea, doS_0 _ _ _ _ eb])
        | (refine ⟨?_, ?_, ?_⟩ <;> simp only [doS_s _ _ _ _ ea, doS_q _ _ _ _ eb])
        | (refine ⟨?_, ?_, ?_⟩ <;> simp only [doS_s _ _ _ _ ea, doS_m _ _ _ _ eb])
        | (refine ⟨?_, ?_, ?_⟩ <;> simp only [doS_m _ _ _ _ ea, doS_q _ _ _ _ eb])
        | (refine ⟨?_, ?_, ?_⟩ <;> simp only [doS_m _ _ _ _ ea, doS_s _ _ _ _ eb])
  · rw [looks_do st ka a b h1, looks_do st kb a' b' h2, looks_do st ka a b h1]
    exact ⟨rfl, rfl, rfl⟩
end Go.Proofs.Ythbngenjcgclgaa
