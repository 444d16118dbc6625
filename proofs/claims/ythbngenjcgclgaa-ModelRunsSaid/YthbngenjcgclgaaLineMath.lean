/- The plain mathematics of lines: a word's bytes, bytes' words. Conditions: none. -/
import Derived.Test.YthbngenjcgclgaaInts
namespace Go.Proofs.Ythbngenjcgclgaa
namespace LM
/-- The k-th byte of a word. -/
def wb (x : Int) (k : Nat) : Int := x / 256 ^ k % 256
/-- The first k bytes of a word. -/
def wbs (x : Int) (k : Nat) : List Int := (List.range k).map (wb x)
/-- The bytes of words. -/
def bytesOf (ls : List Int) : List Int := ls.flatMap fun x => wbs x 8
theorem wbs_succ (x : Int) (k : Nat) : wbs x (k + 1) = wbs x k ++ [wb x k] := by
  unfold wbs; rw [List.range_succ, List.map_append]; rfl
theorem wbs_len (x : Int) (k : Nat) : (wbs x k).length = k := by simp [wbs]
theorem bytesOf_len (ls : List Int) : (bytesOf ls).length = 8 * ls.length := by
  induction ls with
  | nil => rfl
  | cons a l ih =>
    show (wbs a 8 ++ bytesOf l).length = _
    rw [List.length_append, wbs_len, ih, List.length_cons]; omega
theorem bytesOf_append (a b : List Int) : bytesOf (a ++ b) = bytesOf a ++ bytesOf b := by simp [bytesOf]
theorem bytesOf_one (x : Int) : bytesOf [x] = wbs x 8 := by simp [bytesOf]
theorem bytesOf_take (ls : List Int) (k : Nat) (h : k < ls.length) : bytesOf (ls.take (k + 1)) = bytesOf (ls.take k) ++ wbs ls[k] 8 := by
  rw [List.take_succ_eq_append_getElem h, bytesOf_append, bytesOf_one]
theorem wb_lim (x : Int) (k : Nat) : 0 ≤ wb x k ∧ wb x k < 256 := ⟨Int.emod_nonneg _ (by decide), Int.emod_lt_of_pos _ (by decide)⟩
theorem mem_bytesOf {ls : List Int} {z : Int} (h : z ∈ bytesOf ls) : 0 ≤ z ∧ z < 256 := by
  obtain ⟨x, _, hz⟩ := List.mem_flatMap.1 h
  obtain ⟨k, _, rfl⟩ := List.mem_map.1 hz
  exact wb_lim x k
theorem lim_of {l : List Int} {m : Int} (h : ∀ z ∈ l, 0 ≤ z ∧ z < m) : Lim l m := fun j hj => by
  have : l.getD j 0 ∈ l := by simp [List.getD_eq_getElem?_getD, hj]
  exact h _ this
theorem of_lim {l : List Int} {m : Int} (h : Lim l m) : ∀ z ∈ l, 0 ≤ z ∧ z < m := fun z hz => by
  obtain ⟨j, hj, rfl⟩ := List.getElem_of_mem hz
  have := h j hj
  simpa [List.getD_eq_getElem?_getD, hj] using this
theorem bytesOf_lim (ls : List Int) : Lim (bytesOf ls) 256 := lim_of fun _ h => mem_bytesOf h
theorem div_succ (x : Int) (m : Nat) : x / 256 ^ (m + 1) = x / 256 ^ m / 256 := by
  rw [Int.pow_succ, Int.ediv_ediv_of_nonneg (Int.pow_nonneg (by decide))]
theorem div_lim (x : Int) (m : Nat) (h0 : 0 ≤ x) (h1 : x < 18446744073709551616) : 0 ≤ x / 256 ^ m ∧ x / 256 ^ m < 18446744073709551616 := by
  refine ⟨Int.ediv_nonneg h0 (Int.pow_nonneg (by decide)), Int.lt_of_le_of_lt (Int.ediv_le_self _ h0) h1⟩
theorem eightOf {l : List Int} (h : l.length = 8) : ∃ a b c d e f g i : Int, l = [a, b, c, d, e, f, g, i] := by
  match l, h with
  | [a, b, c, d, e, f, g, i], _ => exact ⟨a, b, c, d, e, f, g, i, rfl⟩
theorem take8 (zs : List Int) (k : Nat) (h : 8 * k + 8 ≤ zs.length) : ∃ a b c d e f g i : Int, (zs.drop (8 * k)).take 8 = [a, b, c, d, e, f, g, i] ∧ zs.take (8 * (k + 1)) = zs.take (8 * k) ++ [a, b, c, d, e, f, g, i] := by
  obtain ⟨a, b, c, d, e, f, g, i, hl⟩ := eightOf (l := (zs.drop (8 * k)).take 8) (by rw [List.length_take, List.length_drop]; omega)
  refine ⟨a, b, c, d, e, f, g, i, hl, ?_⟩
  rw [← hl, show 8 * (k + 1) = 8 * k + 8 from by omega, List.take_add]
theorem getD8 {zs l : List Int} {s : Nat} (h : (zs.drop s).take 8 = l) (j : Nat) (hj : j < 8) : zs.getD (s + j) 0 = l.getD j 0 := by
  rw [← h]
  simp only [List.getD_eq_getElem?_getD]
  rw [List.getElem?_take, if_pos hj, List.getElem?_drop]
theorem lim_sub {zs : List Int} {m : Int} (h : Lim zs m) (s n : Nat) : Lim ((zs.drop s).take n) m := lim_of fun z hz => of_lim h z (List.mem_of_mem_drop (List.mem_of_mem_take hz))
theorem lim_append {a b : List Int} {m : Int} (ha : Lim a m) (hb : Lim b m) : Lim (a ++ b) m := lim_of fun z hz => by
  rcases List.mem_append.1 hz with h | h
  · exact of_lim ha z h
  · exact of_lim hb z h
/-- The word of bytes, the lowest first. -/
def wordOf (l : List Int) : Int := l.foldr (fun x a => x + 256 * a) 0
theorem wordOf_cons (x : Int) (l : List Int) : wordOf (x :: l) = x + 256 * wordOf l := rfl
theorem wordOf_snoc (l : List Int) (x : Int) : wordOf (l ++ [x]) = wordOf l + x * 256 ^ l.length := by
  induction l with
  | nil => simp [wordOf]
  | cons a l ih =>
    rw [List.cons_append, wordOf_cons, ih, wordOf_cons, List.length_cons, Int.pow_succ, Int.mul_add, Int.add_assoc]
    congr 2
    rw [Int.mul_comm (256 ^ l.length) 256, ← Int.mul_assoc, Int.mul_comm 256 x, Int.mul_assoc]
theorem wordOf_lim : ∀ l : List Int, (∀ z ∈ l, 0 ≤ z ∧ z < 256) → 0 ≤ wordOf l ∧ wordOf l < 256 ^ l.length := by
  intro l
  induction l with
  | nil => intro _; exact ⟨by decide, by decide⟩
  | cons a l ih =>
    intro h
    have h1 := h a (by simp)
    obtain ⟨h2, h3⟩ := ih fun z hz => h z (by simp [hz])
    rw [wordOf_cons, List.length_cons, Int.pow_succ]
    refine ⟨by omega, ?_⟩
    have e : (256 : Int) ^ l.length * 256 = 256 * 256 ^ l.length := Int.mul_comm _ _
    rw [e]
    generalize (256 : Int) ^ l.length = p at *
    omega
theorem wordOf_lim8 {l : List Int} (hl : l.length ≤ 8) (h : Lim l 256) : 0 ≤ wordOf l ∧ wordOf l < 18446744073709551616 := by
  obtain ⟨h1, h2⟩ := wordOf_lim l (of_lim h)
  refine ⟨h1, Int.lt_of_lt_of_le h2 ?_⟩
  have h3 : (256 : Nat) ^ l.length ≤ 256 ^ 8 := Nat.pow_le_pow_right (by omega) hl
  have h4 : ((256 ^ l.length : Nat) : Int) ≤ ((256 ^ 8 : Nat) : Int) := Int.ofNat_le.2 h3
  rw [Int.natCast_pow] at h4
  exact h4
theorem wbs_cons (x : Int) (k : Nat) : wbs x (k + 1) = x % 256 :: wbs (x / 256) k := by
  unfold wbs
  rw [List.range_succ_eq_map, List.map_cons, List.map_map]
  congr 1
  · simp [wb]
  · apply List.map_congr_left
    intro a _
    show wb x (a + 1) = wb (x / 256) a
    unfold wb
    rw [Int.pow_succ, Int.mul_comm, ← Int.ediv_ediv_of_nonneg (by decide)]
theorem wordOf_wbs (k : Nat) : ∀ x : Int, 0 ≤ x → x < 256 ^ k → wordOf (wbs x k) = x := by
  induction k with
  | zero =>
    intro x h0 h1
    have : x = 0 := by simp at h1; omega
    subst this; rfl
  | succ k ih =>
    intro x h0 h1
    rw [Int.pow_succ] at h1
    rw [wbs_cons, wordOf_cons, ih (x / 256) (by omega) (by omega)]
    omega
theorem wordOf_wbs8 (x : Int) (h0 : 0 ≤ x) (h1 : x < 18446744073709551616) : wordOf (wbs x 8) = x := wordOf_wbs 8 x h0 h1
theorem wbs_wordOf : ∀ l : List Int, (∀ z ∈ l, 0 ≤ z ∧ z < 256) → wbs (wordOf l) l.length = l := by
  intro l
  induction l with
  | nil => intro _; rfl
  | cons a l ih =>
    intro h
    have h1 := h a (by simp)
    rw [List.length_cons, wbs_cons, wordOf_cons]
    have e1 : (a + 256 * wordOf l) % 256 = a := by omega
    have e2 : (a + 256 * wordOf l) / 256 = wordOf l := by omega
    rw [e1, e2, ih fun z hz => h z (by simp [hz])]
/-- The words of bytes, the last ones that make none left out. -/
def wordsOf (b : List Int) : List Int := (List.range (b.length / 8)).map fun i => wordOf ((b.drop (8 * i)).take 8)
theorem wordsOf_len (b : List Int) : (wordsOf b).length = b.length / 8 := by simp [wordsOf]
def wordsTo (b : List Int) (i : Nat) : List Int := (List.range i).map fun i => wordOf ((b.drop (8 * i)).take 8)
theorem wordsTo_succ (b : List Int) (i : Nat) : wordsTo b (i + 1) = wordsTo b i ++ [wordOf ((b.drop (8 * i)).take 8)] := by
  unfold wordsTo; rw [List.range_succ, List.map_append]; rfl
theorem wordsTo_all (b : List Int) : wordsTo b (b.length / 8) = wordsOf b := rfl
theorem wordsTo_len (b : List Int) (i : Nat) : (wordsTo b i).length = i := by simp [wordsTo]
theorem wordsOf_lim {b : List Int} (h : Lim b 256) : Lim (wordsOf b) 18446744073709551616 := lim_of fun z hz => by
  obtain ⟨i, _, rfl⟩ := List.mem_map.1 hz
  exact wordOf_lim8 (by rw [List.length_take]; omega) (lim_sub h _ _)
theorem wordsOf_cons8 (l r : List Int) (h : l.length = 8) : wordsOf (l ++ r) = wordOf l :: wordsOf r := by
  unfold wordsOf
  rw [List.length_append, h, show (8 + r.length) / 8 = r.length / 8 + 1 from by omega, List.range_succ_eq_map, List.map_cons, List.map_map]
  congr 1
  · rw [List.drop_zero, List.take_append_of_le_length (by omega), List.take_of_length_le (by omega)]
  · apply List.map_congr_left
    intro i _
    show wordOf (((l ++ r).drop (8 * (i + 1))).take 8) = _
    rw [List.drop_append, List.drop_eq_nil_of_le (by omega), List.nil_append, show 8 * (i + 1) - l.length = 8 * i from by omega]
theorem wordsOf_bytesOf : ∀ zs : List Int, (∀ z ∈ zs, 0 ≤ z ∧ z < 18446744073709551616) → wordsOf (bytesOf zs) = zs := by
  intro zs
  induction zs with
  | nil => intro _; rfl
  | cons a l ih =>
    intro h
    have h1 := h a (by simp)
    show wordsOf (wbs a 8 ++ bytesOf l) = _
    rw [wordsOf_cons8 _ _ (wbs_len _ _), wordOf_wbs8 a h1.1 h1.2, ih fun z hz => h z (by simp [hz])]
theorem bytesOf_wordsOf : ∀ (n : Nat) (b : List Int), b.length = 8 * n → (∀ z ∈ b, 0 ≤ z ∧ z < 256) → bytesOf (wordsOf b) = b := by
  intro n
  induction n with
  | zero =>
    intro b hb _
    have : b = [] := List.eq_nil_of_length_eq_zero (by omega)
    subst this; rfl
  | succ n ih =>
    intro b hb h
    have hl : (b.take 8).length = 8 := by rw [List.length_take]; omega
    have e : b = b.take 8 ++ b.drop 8 := (List.take_append_drop 8 b).symm
    have e2 : bytesOf (wordsOf (b.take 8 ++ b.drop 8)) = b.take 8 ++ b.drop 8 := by
      rw [wordsOf_cons8 _ _ hl]
      show wbs (wordOf (b.take 8)) 8 ++ bytesOf (wordsOf (b.drop 8)) = _
      rw [ih (b.drop 8) (by rw [List.length_drop]; omega) fun z hz => h z (List.mem_of_mem_drop hz)]
      have := wbs_wordOf (b.take 8) fun z hz => h z (List.mem_of_mem_take hz)
      rw [hl] at this
      rw [this]
    rwa [← e] at e2
theorem pow7 {y : Int} {n : Nat} (h : y < 256 ^ n) (hn : n ≤ 7) : y < 72057594037927936 := by
  have h3 : (256 : Nat) ^ n ≤ 256 ^ 7 := Nat.pow_le_pow_right (by omega) hn
  have h4 : ((256 ^ n : Nat) : Int) ≤ ((256 ^ 7 : Nat) : Int) := Int.ofNat_le.2 h3
  rw [Int.natCast_pow] at h4
  exact Int.lt_of_lt_of_le h h4
/-- The error of so many of a size. -/
def may (n size : Nat) : Int := if n % size = 0 then (if 262144 < n / size then 2 else 0) else 3
end LM
theorem add_spot (a : Addr) (i j : Nat) (hj : 0 < j) : a.add (i + j) = ⟨(a.add i).block, (a.add i).off + j, none⟩ := by
  unfold Addr.add
  rw [if_neg (by omega)]
  by_cases hi : i = 0
  · subst hi; simp
  · rw [if_neg hi]; simp; omega
/-- The eight cells of a line of a row of lines, as a load reads them. -/
def Cells8 (w : World) (p : Addr) (k : IntKind) (a b c d e f g i : Int) : Prop :=
  w.cell? p = some (.int k a) ∧ w.cell? ⟨p.block, p.off + 1, none⟩ = some (.int k b) ∧ w.cell? ⟨p.block, p.off + 2, none⟩ = some (.int k c) ∧ w.cell? ⟨p.block, p.off + 3, none⟩ = some (.int k d) ∧
  w.cell? ⟨p.block, p.off + 4, none⟩ = some (.int k e) ∧ w.cell? ⟨p.block, p.off + 5, none⟩ = some (.int k f) ∧ w.cell? ⟨p.block, p.off + 6, none⟩ = some (.int k g) ∧ w.cell? ⟨p.block, p.off + 7, none⟩ = some (.int k i)
theorem line_at {w : World} {kd : IntKind} {ad : Addr} {zs : List Int} {m : Int} (hc : ∀ j, j < zs.length → w.cell? (ad.add j) = some (.int kd (zs.getD j 0))) (k : Nat) (h : 8 * k + 8 ≤ zs.length) (hlim : Lim zs m) :
    ∃ a b c d e f g i : Int, (zs.drop (8 * k)).take 8 = [a, b, c, d, e, f, g, i] ∧ zs.take (8 * (k + 1)) = zs.take (8 * k) ++ [a, b, c, d, e, f, g, i] ∧ Lim [a, b, c, d, e, f, g, i] m ∧ Cells8 w (ad.add (k * 8)) kd a b c d e f g i := by
  obtain ⟨a, b, c, d, e, f, g, i, h1, h2⟩ := LM.take8 zs k h
  refine ⟨a, b, c, d, e, f, g, i, h1, h2, by rw [← h1]; exact LM.lim_sub hlim _ _, ?_⟩
  have hj : ∀ j, j < 8 → w.cell? (ad.add (k * 8 + j)) = some (.int kd ([a, b, c, d, e, f, g, i].getD j 0)) := fun j hj => by
    rw [hc _ (by omega), Nat.mul_comm k 8, LM.getD8 h1 j hj]
  have hs : ∀ j, 0 < j → j < 8 → w.cell? ⟨(ad.add (k * 8)).block, (ad.add (k * 8)).off + j, none⟩ = some (.int kd ([a, b, c, d, e, f, g, i].getD j 0)) := fun j h0 h8 => by
    rw [← add_spot _ _ _ h0]; exact hj j h8
  exact ⟨hj 0 (by omega), hs 1 (by omega) (by omega), hs 2 (by omega) (by omega), hs 3 (by omega) (by omega), hs 4 (by omega) (by omega), hs 5 (by omega) (by omega), hs 6 (by omega) (by omega), hs 7 (by omega) (by omega)⟩
end Go.Proofs.Ythbngenjcgclgaa
