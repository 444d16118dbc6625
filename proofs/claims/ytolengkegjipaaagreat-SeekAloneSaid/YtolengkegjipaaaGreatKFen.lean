/- Sets that are added to; states behind acts; slices of acts that came in. Conditions: those that each theorem names. -/
import Derived.Test.YtolengkegjipaaaGreatKActs
import Derived.Test.YtolengkegjipaaaGreatLineLaw
namespace Go.Proofs.YtolengkegjipaaaGreat
open Go.ChangeShapes Go.WideShapes Go.ChangeAt Go.RowKit Go.Deep
set_option linter.unusedVariables false
/-- A word put into a rising list, where it belongs. -/
def ins (l : List Int) (x : Int) : List Int := insAt l (l.countP (· < x)) x
theorem ins_lt (a x : Int) (l : List Int) (h : a < x) : ins (a :: l) x = a :: ins l x := by
  unfold ins insAt
  rw [List.countP_cons_of_pos (by simpa using h)]
  rfl
theorem ins_ge (a x : Int) (l : List Int) (h : x ≤ a) (hs : (a :: l).Pairwise (· < ·)) : ins (a :: l) x = x :: a :: l := by
  unfold ins insAt
  have h0 : (a :: l).countP (· < x) = 0 := by
    rw [List.countP_eq_zero]
    intro b hb
    rcases List.mem_cons.1 hb with rfl | hb
    · simpa using h
    · have := (List.pairwise_cons.1 hs).1 b hb
      simp; omega
  rw [h0]
  rfl
theorem mem_ins (x y : Int) : ∀ l : List Int, y ∈ ins l x ↔ y = x ∨ y ∈ l := fun l => by
  unfold ins insAt
  rw [List.mem_append, List.mem_cons]
  conv => rhs; rw [← List.take_append_drop (l.countP (· < x)) l, List.mem_append]
  constructor
  · rintro (h | h | h)
    · exact Or.inr (Or.inl h)
    · exact Or.inl h
    · exact Or.inr (Or.inr h)
  · rintro (h | h | h)
    · exact Or.inr (Or.inl h)
    · exact Or.inl h
    · exact Or.inr (Or.inr h)
theorem ins_sorted (x : Int) : ∀ l : List Int, l.Pairwise (· < ·) → x ∉ l → (ins l x).Pairwise (· < ·)
  | [], _, _ => by simp [ins, insAt]
  | a :: l, hs, hx => by
    have hs' := List.pairwise_cons.1 hs
    have hxa : x ≠ a := fun e => hx (by rw [e]; exact List.mem_cons_self)
    by_cases h : a < x
    · rw [ins_lt a x l h]
      refine List.pairwise_cons.2 ⟨fun b hb => ?_, ins_sorted x l hs'.2 (fun hm => hx (List.mem_cons_of_mem _ hm))⟩
      rcases (mem_ins x b l).1 hb with rfl | hb
      · exact h
      · exact hs'.1 b hb
    · rw [ins_ge a x l (by omega) hs]
      refine List.pairwise_cons.2 ⟨fun b hb => ?_, hs⟩
      rcases List.mem_cons.1 hb with rfl | hb
      · omega
      · have := hs'.1 b hb
        omega
theorem setAdd_mem (l : List Int) (x y : Int) : y ∈ setAdd l x ↔ y = x ∨ y ∈ l := by
  unfold setAdd
  by_cases h : l.contains x = true
  · rw [if_pos h]
    have : x ∈ l := by simpa using h
    exact ⟨Or.inr, fun h => h.elim (fun e => by rw [e]; exact this) id⟩
  · rw [if_neg h]
    exact mem_ins x y l
theorem setAdd_sorted (l : List Int) (x : Int) (hs : l.Pairwise (· < ·)) : (setAdd l x).Pairwise (· < ·) := by
  unfold setAdd
  by_cases h : l.contains x = true
  · rw [if_pos h]; exact hs
  · rw [if_neg h]
    exact ins_sorted x l hs (fun hm => h (by simpa using hm))
theorem setAdd_len (l : List Int) (x : Int) : (setAdd l x).length ≤ l.length + 1 := by
  unfold setAdd
  by_cases h : l.contains x = true
  · rw [if_pos h]; omega
  · rw [if_neg h, insAt_len _ _ _ List.countP_le_length]; exact Nat.le_refl _
theorem getD_set (fl : List (List Int)) (t t' : Nat) (l : List Int) : (fl.set t l).getD t' [] = l ∨ (fl.set t l).getD t' [] = fl.getD t' [] := by
  by_cases e : t' = t
  · subst e
    by_cases ht : t' < fl.length
    · left
      rw [List.getD_eq_getElem?_getD, List.getElem?_set_self ht]; rfl
    · right
      rw [List.set_eq_of_length_le (by omega)]
  · right
    rw [List.getD_eq_getElem?_getD, List.getElem?_set_ne (fun h => e h.symm), ← List.getD_eq_getElem?_getD]
theorem Fine.up {i : Nat} {s : DSt} (h : Fine i s) : Fine (i + 1) s := ⟨h.srt, h.rng, fun t => by have := h.len t; omega, h.few.mono (by omega)⟩
theorem Fine.act {i : Nat} {s : DSt} (h : Fine i s) (hi : i ≤ 90) (k t l a x : Int) : Fine (i + 1) (s.act k t l a x) := by
  unfold DSt.act
  split
  · unfold DSt.flush
    split
    · rename_i hc
      refine ⟨fun t' => ?_, fun t' y hy => ?_, fun t' => ?_, h.few.mono (by omega)⟩
      · show (((s.fl.set t.toNat _).getD t' []).Pairwise (· < ·))
        rcases getD_set s.fl t.toNat t' (setAdd (s.fl.getD t.toNat []) l) with e | e
        · rw [e]; exact setAdd_sorted _ _ (h.srt _)
        · rw [e]; exact h.srt _
      · have hy' : y ∈ (s.fl.set t.toNat (setAdd (s.fl.getD t.toNat []) l)).getD t' [] := hy
        show 0 ≤ y ∧ y < (s.n : Int)
        rcases getD_set s.fl t.toNat t' (setAdd (s.fl.getD t.toNat []) l) with e | e
        · rw [e] at hy'
          rcases (setAdd_mem _ _ _).1 hy' with rfl | hy'
          · exact ⟨hc.2.2.1, hc.2.2.2⟩
          · exact h.rng _ _ hy'
        · rw [e] at hy'
          exact h.rng _ _ hy'
      · show ((s.fl.set t.toNat _).getD t' []).length ≤ i + 1
        rcases getD_set s.fl t.toNat t' (setAdd (s.fl.getD t.toNat []) l) with e | e
        · rw [e]
          have := setAdd_len (s.fl.getD t.toNat []) l
          have := h.len t.toNat
          omega
        · rw [e]
          have := h.len t'
          omega
    · exact h.up
  split
  · unfold DSt.fence
    split
    · have hn : (s.backs (s.fl.getD t.toNat [])).n = s.n := backs_n _ s
      refine ⟨fun t' => ?_, fun t' y hy => ?_, fun t' => ?_, ?_⟩
      · show (((s.fl.set t.toNat []).getD t' []).Pairwise (· < ·))
        rcases getD_set s.fl t.toNat t' [] with e | e
        · rw [e]; exact List.Pairwise.nil
        · rw [e]; exact h.srt _
      · have hy' : y ∈ (s.fl.set t.toNat []).getD t' [] := hy
        show 0 ≤ y ∧ y < ((s.backs (s.fl.getD t.toNat [])).n : Int)
        rw [hn]
        rcases getD_set s.fl t.toNat t' [] with e | e
        · rw [e] at hy'; cases hy'
        · rw [e] at hy'
          exact h.rng _ _ hy'
      · show ((s.fl.set t.toNat []).getD t' []).length ≤ i + 1
        rcases getD_set s.fl t.toNat t' [] with e | e
        · rw [e]; simp
        · rw [e]
          have := h.len t'
          omega
      · have hl := h.len t.toNat
        exact (backs_few (s.fl.getD t.toNat []) s _ h.few).mono (by omega)
    · exact h.up
  split
  · unfold DSt.evict
    split
    · exact ⟨h.srt, h.rng, fun t => by have := h.len t; show (s.fl.getD t []).length ≤ i + 1; omega, (Few.back h.few _).mono (by omega)⟩
    · exact h.up
  split
  · have hg : ∀ t', (List.replicate s.T ([] : List Int)).getD t' [] = [] := fun t' => by
      rw [List.getD_eq_getElem?_getD, List.getElem?_replicate]
      split <;> rfl
    refine ⟨fun t' => ?_, fun t' y hy => ?_, fun t' => ?_, h.few.mono (by omega)⟩
    · show (((List.replicate s.T ([] : List Int)).getD t' []).Pairwise (· < ·))
      rw [hg]; exact List.Pairwise.nil
    · have hy' : y ∈ (List.replicate s.T ([] : List Int)).getD t' [] := hy
      rw [hg] at hy'; cases hy'
    · show ((List.replicate s.T ([] : List Int)).getD t' []).length ≤ i + 1
      rw [hg]; simp
  split
  · exact h.up
  · unfold DSt.store
    split
    · exact ⟨h.srt, h.rng, fun t => by have := h.len t; show (s.fl.getD t []).length ≤ i + 1; omega, h.few.mono (by omega)⟩
    · exact h.up
theorem fine_new (n T : Nat) (zs : List Int) : Fine 0 ⟨n, T, zs, zs, List.replicate n 0, List.replicate T []⟩ := by
  have hg : ∀ t', (List.replicate T ([] : List Int)).getD t' [] = [] := fun t' => by
    rw [List.getD_eq_getElem?_getD, List.getElem?_replicate]
    split <;> rfl
  refine ⟨fun t => ?_, fun t x hx => ?_, fun t => ?_, fun p => ?_⟩
  · show (((List.replicate T ([] : List Int)).getD t []).Pairwise (· < ·))
    rw [hg]; exact List.Pairwise.nil
  · have hx' : x ∈ (List.replicate T ([] : List Int)).getD t [] := hx
    rw [hg] at hx'; cases hx'
  · show ((List.replicate T ([] : List Int)).getD t []).length ≤ 0
    rw [hg]; simp
  · show -1 ≤ (List.replicate n (0 : Int)).getD p 0 ∧ (List.replicate n (0 : Int)).getD p 0 < _
    rw [List.getD_eq_getElem?_getD, List.getElem?_replicate]
    split <;> simp
end Go.Proofs.YtolengkegjipaaaGreat


/- Slices of acts that came in, read. Conditions: those that each theorem names. -/
namespace Go.Proofs.YtolengkegjipaaaGreat
open Go.ChangeShapes Go.WideShapes Go.ChangeAt Go.RowKit Go.Deep
set_option linter.unusedVariables false
/-- An act, by its numbers. -/
structure Act5 where
  k : Int
  t : Int
  l : Int
  a : Int
  x : Int
def Act5.at (z : Act5) (w : World) (p : Addr) : Prop :=
  w.cell? p = some (.int .i64 z.k) ∧ w.cell? ⟨p.block, p.off + 1, none⟩ = some (.int .i64 z.t) ∧ w.cell? ⟨p.block, p.off + 2, none⟩ = some (.int .i64 z.l) ∧ w.cell? ⟨p.block, p.off + 3, none⟩ = some (.int .i64 z.a) ∧ w.cell? ⟨p.block, p.off + 4, none⟩ = some (.int .u64 z.x)
def noAct : Act5 := ⟨0, 0, 0, 0, 0⟩
/-- A slice of acts, read. -/
def Acts (w : World) (A : Option Addr) (ys : List Act5) : Prop := 0 < ys.length → ∃ ad, A = some ad ∧ ad.block < w.heap.size ∧ ∀ i, i < ys.length → (ys.getD i noAct).at w (ad.add (i * 5)) ∧ (0 ≤ (ys.getD i noAct).x ∧ (ys.getD i noAct).x < 18446744073709551616)
theorem Acts.ext {w w' : World} {A : Option Addr} {ys : List Act5} (h : Acts w A ys) (x : Ext w w') : Acts w' A ys := fun h0 => by
  obtain ⟨ad, rfl, hb, hc⟩ := h h0
  refine ⟨ad, rfl, Nat.lt_of_lt_of_le hb x.size, fun i hi => ?_⟩
  obtain ⟨⟨c0, c1, c2, c3, c4⟩, hx⟩ := hc i hi
  have e : w'.heap[ad.block]? = w.heap[ad.block]? := x.block ad.block hb
  have e' : w'.heap[(ad.add (i * 5)).block]? = w.heap[(ad.add (i * 5)).block]? := by rw [add_block]; exact e
  have kk : ∀ q : Addr, q.block = (ad.add (i * 5)).block → w'.cell? q = w.cell? q := fun q hq => World.cell?_of_block (by rw [hq]; exact e')
  exact ⟨⟨(by refine Eq.trans (kk _ ?_) c0; rfl), (by refine Eq.trans (kk _ ?_) c1; rfl), (by refine Eq.trans (kk _ ?_) c2; rfl), (by refine Eq.trans (kk _ ?_) c3; rfl), (by refine Eq.trans (kk _ ?_) c4; rfl)⟩, hx⟩
section
variable {H : Type} {enc : TypeId × Value → H} {P : Program}
end
theorem act_n (s : DSt) (k t l a x : Int) : (s.act k t l a x).n = s.n ∧ (s.act k t l a x).T = s.T := by
  have hb : ∀ (l : List Int) (s : DSt), (s.backs l).T = s.T := fun l => by
    induction l with
    | nil => intro s; rfl
    | cons p l ih => intro s; exact ih (s.back p.toNat)
  unfold DSt.act
  split
  · unfold DSt.flush; split <;> exact ⟨rfl, rfl⟩
  split
  · unfold DSt.fence; split
    · exact ⟨backs_n _ s, hb _ s⟩
    · exact ⟨rfl, rfl⟩
  split
  · unfold DSt.evict; split <;> exact ⟨rfl, rfl⟩
  split
  · exact ⟨rfl, rfl⟩
  split
  · exact ⟨rfl, rfl⟩
  · unfold DSt.store; split <;> exact ⟨rfl, rfl⟩
end Go.Proofs.YtolengkegjipaaaGreat


/- What is kept behind lines written back. Conditions: those that each theorem names. -/
namespace Go.Proofs.YtolengkegjipaaaGreat
open Go.ChangeShapes Go.WideShapes Go.ChangeAt Go.RowKit
set_option linter.unusedVariables false
/-- A line of all words. -/
def lineOf (zs : List Int) (q : Nat) : List Int := (zs.drop (q * 8)).take 8
theorem lineOf_get (zs : List Int) (q j : Nat) (hj : j < 8) : (lineOf zs q)[j]? = zs[q * 8 + j]? := by
  unfold lineOf
  rw [List.getElem?_take, if_pos hj, List.getElem?_drop]
theorem lineOf_ext {a b : List Int} {p q : Nat} (h : ∀ j, j < 8 → a[p * 8 + j]? = b[q * 8 + j]?) : lineOf a p = lineOf b q := by
  apply List.ext_getElem?
  intro j
  by_cases hj : j < 8
  · rw [lineOf_get _ _ _ hj, lineOf_get _ _ _ hj, h j hj]
  · have h1 : (lineOf a p).length ≤ 8 := by unfold lineOf; rw [List.length_take]; omega
    have h2 : (lineOf b q).length ≤ 8 := by unfold lineOf; rw [List.length_take]; omega
    rw [List.getElem?_eq_none (by omega), List.getElem?_eq_none (by omega)]
structure Big (s : DSt) : Prop where
  k : s.kept.length = s.n * 8
  s : s.seen.length = s.n * 8
theorem put8_get (zs ls : List Int) (o : Nat) (hl : ls.length = 8) (ho : o + 8 ≤ zs.length) (j : Nat) : (put8 zs o ls)[j]? = if o ≤ j ∧ j < o + 8 then ls[j - o]? else zs[j]? := by
  unfold put8
  have ht : (zs.take o).length = o := by rw [List.length_take]; omega
  rw [List.append_assoc, List.getElem?_append, ht, List.getElem?_append, hl]
  by_cases h1 : j < o
  · rw [if_pos h1, if_neg (by omega), List.getElem?_take, if_pos h1]
  · rw [if_neg h1]
    by_cases h2 : j - o < 8
    · rw [if_pos h2, if_pos (by omega)]
    · rw [if_neg h2, if_neg (by omega), List.getElem?_drop]
      congr 1
      omega
theorem put8_len (zs ls : List Int) (o : Nat) (hl : ls.length = 8) (ho : o + 8 ≤ zs.length) : (put8 zs o ls).length = zs.length := by unfold put8; simp [hl]; omega
theorem lineOf_len {zs : List Int} {n : Nat} (h : zs.length = n * 8) (p : Nat) (hp : p < n) : (lineOf zs p).length = 8 := by unfold lineOf; rw [List.length_take, List.length_drop, h]; omega
theorem Big.back {s : DSt} (h : Big s) (p : Nat) (hp : p < s.n) : Big (s.back p) := ⟨(put8_len s.kept (lineOf s.seen p) (p * 8) (lineOf_len h.s p hp) (by rw [h.k]; omega)).trans h.k, h.s⟩
theorem back_line {s : DSt} (h : Big s) (p q : Nat) (hp : p < s.n) (hq : q < s.n) : lineOf (s.back p).kept q = if q = p then lineOf s.seen p else lineOf s.kept q := by
  have hl : (lineOf s.seen p).length = 8 := by unfold lineOf; rw [List.length_take, List.length_drop, h.s]; omega
  have hg := put8_get s.kept (lineOf s.seen p) (p * 8) hl (by rw [h.k]; omega)
  have e : (s.back p).kept = put8 s.kept (p * 8) (lineOf s.seen p) := rfl
  rw [e]
  by_cases c : q = p
  · subst c
    rw [if_pos rfl]
    apply List.ext_getElem?
    intro j
    by_cases hj : j < 8
    · rw [lineOf_get _ _ _ hj, hg, if_pos (by omega), Nat.add_sub_cancel_left]
    · have h1 : (lineOf (put8 s.kept (q * 8) (lineOf s.seen q)) q).length ≤ 8 := by unfold lineOf; rw [List.length_take]; omega
      rw [List.getElem?_eq_none (by omega), List.getElem?_eq_none (by omega)]
  · rw [if_neg c]
    apply lineOf_ext
    intro j hj
    rw [hg, if_neg (by omega)]
theorem backs_line (l : List Int) : ∀ s : DSt, Big s → (∀ x ∈ l, 0 ≤ x ∧ x < (s.n : Int)) → ∀ q, q < s.n → (lineOf (s.backs l).kept q = lineOf s.kept q ∨ lineOf (s.backs l).kept q = lineOf s.seen q) ∧ ((q : Int) ∈ l → lineOf (s.backs l).kept q = lineOf s.seen q) := by
  induction l with
  | nil => intro s _ _ q _; exact ⟨Or.inl rfl, fun h => by cases h⟩
  | cons p l ih =>
    intro s hb hr q hq
    have hp := hr p List.mem_cons_self
    have hpn : p.toNat < s.n := by omega
    obtain ⟨h1, h2⟩ := ih (s.back p.toNat) (hb.back _ hpn) (fun x hx => hr x (List.mem_cons_of_mem _ hx)) q hq
    have hl := back_line hb p.toNat q hpn hq
    have hs : lineOf (s.back p.toNat).seen q = lineOf s.seen q := rfl
    rw [hs] at h1 h2
    have e : s.backs (p :: l) = (s.back p.toNat).backs l := rfl
    rw [e]
    by_cases c : q = p.toNat
    · rw [if_pos c, ← c] at hl
      have : lineOf ((s.back p.toNat).backs l).kept q = lineOf s.seen q := by
        rcases h1 with h1 | h1
        · rw [h1, ← c, hl]
        · exact h1
      exact ⟨Or.inr this, fun _ => this⟩
    · rw [if_neg c] at hl
      rw [hl] at h1
      refine ⟨h1, fun hm => ?_⟩
      rcases List.mem_cons.1 hm with hm | hm
      · exact absurd (by omega) c
      · exact h2 hm
theorem backs_big (l : List Int) : ∀ s : DSt, Big s → (∀ x ∈ l, 0 ≤ x ∧ x < (s.n : Int)) → Big (s.backs l) := by
  induction l with
  | nil => intro s h _; exact h
  | cons p l ih =>
    intro s h hr
    have hp := hr p List.mem_cons_self
    exact ih _ (h.back _ (by omega)) (fun x hx => hr x (List.mem_cons_of_mem _ hx))
theorem backs_seen (l : List Int) : ∀ s : DSt, (s.backs l).seen = s.seen := by
  induction l with
  | nil => intro s; rfl
  | cons p l ih => intro s; exact ih (s.back p.toNat)
end Go.Proofs.YtolengkegjipaaaGreat


/- PdevFences: the walk up to its last statement. Conditions: those that each theorem names. -/
namespace Go.Proofs.YtolengkegjipaaaGreat
open Go.ChangeShapes Go.WideShapes Go.ChangeAt Go.RowKit
set_option linter.unusedVariables false
section
variable {Q : Nat → Prop} {wb w0 w : World} {v : Value} {s : DSt}
theorem AtQ.big (h : AtQ Q wb w0 w v s) : Big s := by
  obtain ⟨D, rfl, h, _, _⟩ := h
  exact ⟨h.kept.len, h.seen.len⟩
theorem AtQ.pos (h : AtQ Q wb w0 w v s) : 0 < s.n ∧ s.n ≤ 262144 := by
  obtain ⟨D, rfl, h, _, _⟩ := h
  exact ⟨h.n0, h.n1⟩
/-- A row of words that is handed back. -/
def Words (w : World) (N : Nat) (zs : List Int) (e : Ending) (w' : World) : Prop := ∃ g c, e = .returned (.slice (some ⟨g, 0, none⟩) N c) ∧ N ≤ c ∧ c ≤ maxLen ∧ Ints w' .u64 (some ⟨g, 0, none⟩) zs ∧ Ext w w' ∧ w.heap.size ≤ g ∧ g < w'.heap.size
theorem words_row {w' : World} {N : Nat} {zs : List Int} {e : Ending} (h0 : 0 < N) (hl : zs.length = N) (h : RowBack w 53 .u64 zs e w') : Words w N zs e w' := by
  obtain ⟨u, rfl, hr, x⟩ := h
  obtain ⟨g, c, hu, h1, h2, h3, h4⟩ := (RowN.of_row hr).at_ (by omega)
  obtain ⟨A, c', hu', _, _, hI, _⟩ := (RowN.of_row hr).form (by decide)
  rw [hl] at hu hu' h1
  rw [hu] at hu'
  injection hu' with e1 e2 e3
  refine ⟨g, c, by rw [hu], h1, h2, ?_, x, h3, h4⟩
  rw [e1]
  exact hI
theorem AtQ.seenA (h : AtQ Q wb w0 w v s) (N : Nat) (hN : s.n * 8 = N) :
    Calls Tryz.prog 32 #[v] w fun e w' => Words w N s.seen e w' ∧ AtQ Q wb w0 w' v s := by
  have h' := h
  have hp := h.pos
  have hb := h.big.s
  obtain ⟨D, rfl, h, ext, hQ⟩ := h
  refine (seen_ok _ w D s h).mono fun e w' hr => ?_
  have hw := words_row (N := N) (by omega) (by omega) hr
  exact ⟨hw, h'.ext (by obtain ⟨_, _, _, _, _, _, x, _, _⟩ := hw; exact x)⟩
end
/-- A row that was handed back is kept beside the device. -/
theorem AtQ.hold {Q : Nat → Prop} {wb w0 w w' : World} {v : Value} {s : DSt} (h : AtQ Q wb w0 w v s) (x : Ext w w') (g : Nat) (hg : w.heap.size ≤ g) (hl : g < w'.heap.size) : AtQ (fun k => Q k ∨ k = g) w' w0 w' v s := by
  obtain ⟨D, rfl, h, e, hQ⟩ := h
  refine ⟨D, rfl, h.ext x, e.trans x, fun k hk => ?_⟩
  rcases hk with hk | rfl
  · obtain ⟨h1, h2, h3⟩ := hQ k hk
    exact ⟨Nat.lt_of_lt_of_le h1 x.size, h2, rfl⟩
  · exact ⟨hl, fun hf => by have := (h.foot_ge hf).2; omega, rfl⟩
end Go.Proofs.YtolengkegjipaaaGreat

