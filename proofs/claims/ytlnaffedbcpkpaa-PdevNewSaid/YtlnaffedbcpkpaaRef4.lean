/- The document's device: words and flags that are turned, and what lines written back come to. Conditions: those that each theorem names. -/
import Derived.Test.YtlnaffedbcpkpaaRef3
import Derived.Test.YtlnaffedbcpkpaaFencesWalk
namespace Go.Proofs.Ytlnaffedbcpkpaa
open Go.ChangeShapes Go.WideShapes Go.ChangeAt Go.RowKit
set_option linter.unusedVariables false
/-- Of each word the one or the other. -/
def sel (L : Nat) (c : Nat → Bool) (a b : List Int) : List Int := (List.range L).map fun i => if c i = true then a.getD i 0 else b.getD i 0
/-- Of each number the next one, or itself. -/
def add1 (L : Nat) (c : Nat → Bool) (b : List Int) : List Int := (List.range L).map fun i => if c i = true then b.getD i 0 + 1 else b.getD i 0
theorem sel_len (L : Nat) (c : Nat → Bool) (a b : List Int) : (sel L c a b).length = L := by simp [sel]
theorem add1_len (L : Nat) (c : Nat → Bool) (b : List Int) : (add1 L c b).length = L := by simp [add1]
theorem sel_get (L : Nat) (c : Nat → Bool) (a b : List Int) (i : Nat) (h : i < L) : (sel L c a b).getD i 0 = if c i = true then a.getD i 0 else b.getD i 0 := by simp [sel, List.getD_eq_getElem?_getD, h]
theorem add1_get (L : Nat) (c : Nat → Bool) (b : List Int) (i : Nat) (h : i < L) : (add1 L c b).getD i 0 = if c i = true then b.getD i 0 + 1 else b.getD i 0 := by simp [add1, List.getD_eq_getElem?_getD, h]
theorem sel_congr {L : Nat} {c d : Nat → Bool} {a b : List Int} (h : ∀ i, i < L → c i = d i) : sel L c a b = sel L d a b := by
  unfold sel
  apply List.map_congr_left
  intro i hi
  rw [h i (by simpa using hi)]
theorem add1_congr {L : Nat} {c d : Nat → Bool} {b : List Int} (h : ∀ i, i < L → c i = d i) : add1 L c b = add1 L d b := by
  unfold add1
  apply List.map_congr_left
  intro i hi
  rw [h i (by simpa using hi)]
theorem list_getD {a b : List Int} (hl : a.length = b.length) (h : ∀ i, i < a.length → a.getD i 0 = b.getD i 0) : a = b := by
  apply List.ext_getElem hl
  intro i h1 h2
  have := h i h1
  rwa [List.getD_eq_getElem?_getD, List.getD_eq_getElem?_getD, List.getElem?_eq_getElem h1, List.getElem?_eq_getElem h2] at this
theorem set_getD (l : List Int) (j i : Nat) (x : Int) (hj : j < l.length) : (l.set j x).getD i 0 = if i = j then x else l.getD i 0 := by
  rw [List.getD_eq_getElem?_getD, List.getD_eq_getElem?_getD, List.getElem?_set]
  by_cases h : j = i
  · subst h; simp [hj]
  · rw [if_neg h, if_neg (fun e => h e.symm)]
theorem sel_none {L : Nat} {c : Nat → Bool} {a b : List Int} (hb : b.length = L) (h : ∀ i, i < L → c i = false) : sel L c a b = b :=
  list_getD ((sel_len _ _ _ _).trans hb.symm) fun i hi => by rw [sel_len] at hi; rw [sel_get _ _ _ _ _ hi, h i hi]; rfl
theorem sel_all {L : Nat} {c : Nat → Bool} {a b : List Int} (ha : a.length = L) (h : ∀ i, i < L → c i = true) : sel L c a b = a :=
  list_getD ((sel_len _ _ _ _).trans ha.symm) fun i hi => by rw [sel_len] at hi; rw [sel_get _ _ _ _ _ hi, h i hi]; rfl
theorem add1_none {L : Nat} {c : Nat → Bool} {b : List Int} (hb : b.length = L) (h : ∀ i, i < L → c i = false) : add1 L c b = b :=
  list_getD ((add1_len _ _ _).trans hb.symm) fun i hi => by rw [add1_len] at hi; rw [add1_get _ _ _ _ hi, h i hi]; rfl
theorem sel_set (L : Nat) (c d : Nat → Bool) (a b : List Int) (j : Nat) (hj : j < L) (h : ∀ i, i < L → d i = (c i || decide (i = j))) : (sel L c a b).set j (a.getD j 0) = sel L d a b :=
  list_getD (by rw [List.length_set, sel_len, sel_len]) fun i hi => by
    rw [List.length_set, sel_len] at hi
    rw [set_getD _ _ _ _ (by rw [sel_len]; exact hj), sel_get _ _ _ _ _ hi, sel_get _ _ _ _ _ hi, h i hi]
    by_cases e : i = j
    · subst e; simp
    · rw [if_neg e]; simp [e]
theorem add1_set (L : Nat) (c d : Nat → Bool) (b : List Int) (j : Nat) (hj : j < L) (hc : c j = false) (h : ∀ i, i < L → d i = (c i || decide (i = j))) : (add1 L c b).set j (b.getD j 0 + 1) = add1 L d b :=
  list_getD (by rw [List.length_set, add1_len, add1_len]) fun i hi => by
    rw [List.length_set, add1_len] at hi
    rw [set_getD _ _ _ _ (by rw [add1_len]; exact hj), add1_get _ _ _ _ hi, add1_get _ _ _ _ hi, h i hi]
    by_cases e : i = j
    · subst e; simp
    · rw [if_neg e]; simp [e]
theorem sel_sel (L : Nat) (c d : Nat → Bool) (a b : List Int) : sel L c a (sel L d a b) = sel L (fun i => c i || d i) a b :=
  list_getD (by rw [sel_len, sel_len]) fun i hi => by
    rw [sel_len] at hi
    rw [sel_get _ _ _ _ _ hi, sel_get _ _ _ _ _ hi, sel_get _ _ _ _ _ hi]
    cases c i <;> cases d i <;> rfl
theorem add1_add1 (L : Nat) (c d : Nat → Bool) (b : List Int) (h : ∀ i, i < L → (c i && d i) = false) : add1 L c (add1 L d b) = add1 L (fun i => c i || d i) b :=
  list_getD (by rw [add1_len, add1_len]) fun i hi => by
    rw [add1_len] at hi
    have := h i hi
    rw [add1_get _ _ _ _ hi, add1_get _ _ _ _ hi, add1_get _ _ _ _ hi]
    cases hc : c i <;> cases hd : d i <;> rw [hc, hd] at this <;> first | rfl | cases this
theorem back_sel {s : DSt} (h : Big s) (hw : s.writes.length = s.n) (p : Nat) (hp : p < s.n) : (s.back p).kept = sel (s.n * 8) (fun i => decide (i / 8 = p)) s.seen s.kept ∧ (s.back p).writes = add1 s.n (fun i => decide (i = p)) s.writes := by
  have hl := lineOf_len h.s p hp
  constructor
  · have hk : (s.back p).kept = put8 s.kept (p * 8) (lineOf s.seen p) := rfl
    refine list_getD (by rw [sel_len, hk, put8_len _ _ _ hl (by rw [h.k]; omega), h.k]) fun i hi => ?_
    rw [hk, put8_len _ _ _ hl (by rw [h.k]; omega), h.k] at hi
    rw [sel_get _ _ _ _ _ hi, hk, List.getD_eq_getElem?_getD, put8_get _ _ _ hl (by rw [h.k]; omega)]
    by_cases c : i / 8 = p
    · rw [if_pos (by omega), lineOf_get _ _ _ (by omega), show p * 8 + (i - p * 8) = i by omega]
      simp [c, List.getD_eq_getElem?_getD]
    · rw [if_neg (by omega)]
      simp [c, List.getD_eq_getElem?_getD]
  · have hk : (s.back p).writes = s.writes.set p (s.writes.getD p 0 + 1) := rfl
    rw [hk, ← add1_none (c := fun _ => false) hw (fun _ _ => rfl)]
    rw [add1_none (c := fun _ => false) hw (fun _ _ => rfl)]
    have := add1_set s.n (fun _ => false) (fun i => decide (i = p)) s.writes p hp rfl (fun i _ => by simp)
    rwa [add1_none (c := fun _ => false) hw (fun _ _ => rfl)] at this
theorem backs_sel (l : List Int) : ∀ s : DSt, Big s → s.writes.length = s.n → (∀ x ∈ l, 0 ≤ x ∧ x < (s.n : Int)) → l.Nodup →
    (s.backs l).kept = sel (s.n * 8) (fun i => l.contains ((i / 8 : Nat) : Int)) s.seen s.kept ∧ (s.backs l).writes = add1 s.n (fun i => l.contains (i : Int)) s.writes ∧ (s.backs l).seen = s.seen ∧ (s.backs l).n = s.n := by
  induction l with
  | nil =>
    intro s hb hw _ _
    exact ⟨(sel_none hb.k (fun _ _ => rfl)).symm, (add1_none hw (fun _ _ => rfl)).symm, rfl, rfl⟩
  | cons p l ih =>
    intro s hb hw hr hnd
    have hp := hr p List.mem_cons_self
    have hpn : p.toNat < s.n := by omega
    obtain ⟨e1, e2⟩ := back_sel hb hw p.toNat hpn
    have hw' : (s.back p.toNat).writes.length = (s.back p.toNat).n := by rw [e2, add1_len]; rfl
    obtain ⟨h1, h2, h3, h4⟩ := ih (s.back p.toNat) (hb.back _ hpn) hw' (fun x hx => hr x (List.mem_cons_of_mem _ hx)) (List.nodup_cons.1 hnd).2
    have e : s.backs (p :: l) = (s.back p.toNat).backs l := rfl
    have es : (s.back p.toNat).seen = s.seen := rfl
    have en : (s.back p.toNat).n = s.n := rfl
    rw [e]
    refine ⟨?_, ?_, h3, h4⟩
    · rw [h1, e1, es, en, sel_sel]
      refine sel_congr fun i hi => ?_
      rw [List.contains_cons, Bool.or_comm]
      congr 1
      rw [Bool.eq_iff_iff, decide_eq_true_iff, beq_iff_eq]
      omega
    · rw [h2, e2, en, add1_add1]
      · refine add1_congr fun i hi => ?_
        rw [List.contains_cons, Bool.or_comm]
        congr 1
        rw [Bool.eq_iff_iff, decide_eq_true_iff, beq_iff_eq]
        omega
      · intro i hi
        by_cases c : i = p.toNat
        · have : l.contains (i : Int) = false := by
            rw [show (i : Int) = p by omega]
            have := (List.nodup_cons.1 hnd).1
            simpa using this
          rw [this]; rfl
        · simp [c]
section
variable {B n L : Nat} {w w' : World} {R : RefB} {kept seen writes : List Int} {fl : Nat → Nat → Bool} {S : Nat → Prop}
theorem IsRef.wlen (h : IsRef B w R n kept seen writes fl) : writes.length = n := by
  obtain ⟨A, c, hv, _⟩ := h.writes.form
  injection hv with _ h2
  exact h2.symm
theorem IsRef.shape (h : IsRef B w R n kept seen writes fl) (hk : kept.length = L) (hs : seen.length = L) (L0 : 0 < L) (T0 : 0 < R.rows.length) :
    ∃ gk ck gs cs gf cf, R.vk = .slice (some ⟨gk, 0, none⟩) L ck ∧ R.vs = .slice (some ⟨gs, 0, none⟩) L cs ∧ R.vf = .slice (some ⟨gf, 0, none⟩) R.rows.length cf := by
  obtain ⟨gk, ck, e1, _⟩ := h.kept.at_ hk L0
  obtain ⟨gs, cs, e2, _⟩ := h.seen.at_ hs L0
  rcases h.flr.2 with ⟨_, h0⟩ | ⟨gf, cf, cur, e3, _⟩
  · rw [List.length_map] at h0; omega
  · rw [List.length_map] at e3
    exact ⟨gk, ck, gs, cs, gf, cf, e1, e2, e3⟩
theorem RowE.cell {us : List Value} {e : TypeId} {g c t : Nat} (h : RowE w B e (.slice (some ⟨g, 0, none⟩) us.length c) us) (ht : t < us.length) : w.cell? ⟨g, t, none⟩ = us[t]? := by
  rw [World.ownsRow.cellAt h t (by omega)]
/-- A thread's row of flags. -/
theorem IsRef.rowAt (h : IsRef B w R n kept seen writes fl) {gf cf : Nat} (e : R.vf = .slice (some ⟨gf, 0, none⟩) R.rows.length cf) (t : Nat) (ht : t < R.rows.length) : w.cell? ⟨gf, t, none⟩ = some (.slice (some ⟨R.rows.getD t 0, 0, none⟩) n n) := by
  have hf := h.flr
  rw [e, ← List.length_map (f := fun b => Value.slice (some ⟨b, 0, none⟩) n n)] at hf
  rw [RowE.cell hf (by rw [List.length_map]; exact ht), List.getElem?_map, List.getElem?_eq_getElem ht, List.getD_eq_getElem?_getD, List.getElem?_eq_getElem ht]
  rfl
theorem IsRef.flagAt (h : IsRef B w R n kept seen writes fl) (t p : Nat) (ht : t < R.rows.length) (hp : p < n) : w.cell? ⟨R.rows.getD t 0, p, none⟩ = some (.bool (fl t p)) := by
  rw [(h.row t ht).cell p]
  simp [flags, hp]
theorem IsRef.setK {gk ck : Nat} (h : IsRef B w R n kept seen writes fl) (e : R.vk = .slice (some ⟨gk, 0, none⟩) L ck) (hk : kept.length = L) (j : Nat) (z : Int) :
    IsRef B (w.setCell ⟨gk, j, none⟩ (.int .u64 z)) R n (kept.set j z) seen writes fl ∧ Fr R.foot w (w.setCell ⟨gk, j, none⟩ (.int .u64 z)) := by
  have ho : R.vk.ownBlock = some gk := by rw [e]; rfl
  have f := Fr.setCell (S := fun b => b = gk) (p := ⟨gk, j, none⟩) (Fr.refl _ w) (Or.inl rfl) (.int .u64 z)
  refine ⟨⟨h.blk.fr f (fun c => h.kept.blk h.blk (by decide) (by rw [c]; exact ho)), ?_, h.seen.fr f (fun b hb c => h.ks gk ho (by rw [← c]; exact hb)), h.writes.fr f (fun b hb c => h.kept.row2 h.writes (by decide) gk ho (by rw [← c]; exact hb)), h.flr.fr f (fun b hb c => h.kept.row h.flr (by decide) gk ho (by rw [← c]; exact hb)), fun t ht => (h.row t ht).fr f (fun c => h.kept.blk (h.row t ht) (by decide) (by rw [c]; exact ho)), h.nd, h.ks, h.bg, h.br⟩, f.mono fun b _ c => by rw [c]; exact Or.inr (Or.inl ho)⟩
  have h2 := RowN.of_row h.kept
  rw [e, hk] at h2
  rw [e]
  exact (h2.set (j := j) z).row
theorem IsRef.setS {gs cs : Nat} (h : IsRef B w R n kept seen writes fl) (e : R.vs = .slice (some ⟨gs, 0, none⟩) L cs) (hk : seen.length = L) (j : Nat) (z : Int) :
    IsRef B (w.setCell ⟨gs, j, none⟩ (.int .u64 z)) R n kept (seen.set j z) writes fl ∧ Fr R.foot w (w.setCell ⟨gs, j, none⟩ (.int .u64 z)) := by
  have ho : R.vs.ownBlock = some gs := by rw [e]; rfl
  have f := Fr.setCell (S := fun b => b = gs) (p := ⟨gs, j, none⟩) (Fr.refl _ w) (Or.inl rfl) (.int .u64 z)
  refine ⟨⟨h.blk.fr f (fun c => h.seen.blk h.blk (by decide) (by rw [c]; exact ho)), h.kept.fr f (fun b hb c => h.ks gs (by rw [← c]; exact hb) ho), ?_, h.writes.fr f (fun b hb c => h.seen.row2 h.writes (by decide) gs ho (by rw [← c]; exact hb)), h.flr.fr f (fun b hb c => h.seen.row h.flr (by decide) gs ho (by rw [← c]; exact hb)), fun t ht => (h.row t ht).fr f (fun c => h.seen.blk (h.row t ht) (by decide) (by rw [c]; exact ho)), h.nd, h.ks, h.bg, h.br⟩, f.mono fun b _ c => by rw [c]; exact Or.inr (Or.inr (Or.inl ho))⟩
  have h2 := RowN.of_row h.seen
  rw [e, hk] at h2
  rw [e]
  exact (h2.set (j := j) z).row
theorem IsRef.setW (h : IsRef B w R n kept seen writes fl) (j : Nat) (z : Int) :
    IsRef B (w.setCell ⟨R.gw, j, none⟩ (.int .i64 z)) R n kept seen (writes.set j z) fl ∧ Fr R.foot w (w.setCell ⟨R.gw, j, none⟩ (.int .i64 z)) := by
  have ho : (Value.slice (some ⟨R.gw, 0, none⟩) n n).ownBlock = some R.gw := rfl
  have f := Fr.setCell (S := fun b => b = R.gw) (p := ⟨R.gw, j, none⟩) (Fr.refl _ w) (Or.inl rfl) (.int .i64 z)
  refine ⟨⟨h.blk.fr f (fun c => h.writes.blk h.blk (by decide) (by rw [c]; exact ho)), h.kept.fr f (fun b hb c => h.kept.row2 h.writes (by decide) b hb (by rw [c]; exact ho)), h.seen.fr f (fun b hb c => h.seen.row2 h.writes (by decide) b hb (by rw [c]; exact ho)), ?_, h.flr.fr f (fun b hb c => h.writes.row h.flr (by decide) R.gw ho (by rw [← c]; exact hb)), fun t ht => (h.row t ht).fr f (fun c => h.writes.blk (h.row t ht) (by decide) (by rw [c]; exact ho)), h.nd, h.ks, h.bg, h.br⟩, f.mono fun b _ c => by rw [c]; exact Or.inr (Or.inr (Or.inr (Or.inl rfl)))⟩
  have h2 := RowN.of_row h.writes
  rw [h.wlen] at h2
  exact (h2.set (j := j) z).row
theorem flags_set (n : Nat) (f : Nat → Bool) (p : Nat) (b : Bool) : (flags n f).set p (.bool b) = flags n (fun q => if q = p then b else f q) := by
  unfold flags
  apply List.ext_getElem
  · simp
  · intro i h1 h2
    simp only [List.length_set, List.length_map, List.length_range] at h1
    rw [List.getElem_set]
    by_cases c : p = i
    · subst c; simp
    · have c' : ¬ i = p := fun e => c e.symm
      simp [c, c']
theorem flags_congr {n : Nat} {f g : Nat → Bool} (h : ∀ p, p < n → f p = g p) : flags n f = flags n g := by
  unfold flags
  apply List.map_congr_left
  intro i hi
  rw [h i (by simpa using hi)]
theorem IsRef.flagsTo {fl' : Nat → Nat → Bool} (h : IsRef B w R n kept seen writes fl) (he : ∀ t p, t < R.rows.length → p < n → fl t p = fl' t p) : IsRef B w R n kept seen writes fl' :=
  ⟨h.blk, h.kept, h.seen, h.writes, h.flr, fun t ht => by rw [← flags_congr (fun p hp => he t p ht hp)]; exact h.row t ht, h.nd, h.ks, h.bg, h.br⟩
theorem IsRef.setF (h : IsRef B w R n kept seen writes fl) (t p : Nat) (b : Bool) (ht : t < R.rows.length) :
    IsRef B (w.setCell ⟨R.rows.getD t 0, p, none⟩ (.bool b)) R n kept seen writes (fun a q => if a = t ∧ q = p then b else fl a q) ∧ Fr R.foot w (w.setCell ⟨R.rows.getD t 0, p, none⟩ (.bool b)) := by
  have f := Fr.setCell (S := fun c => c = R.rows.getD t 0) (p := ⟨R.rows.getD t 0, p, none⟩) (Fr.refl _ w) (Or.inl rfl) (.bool b)
  have ht' := h.row t ht
  refine ⟨⟨h.blk.fr f (fun c => ht'.ne h.blk (by decide) c.symm), h.kept.fr f (fun g hg c => h.kept.blk ht' (by decide) (by rw [← c]; exact hg)), h.seen.fr f (fun g hg c => h.seen.blk ht' (by decide) (by rw [← c]; exact hg)), h.writes.fr f (fun g hg c => h.writes.blk ht' (by decide) (by rw [← c]; exact hg)), h.flr.fr f (fun g hg c => h.flr.blk ht' (by decide) (by rw [← c]; exact hg)), fun a ha => ?_, h.nd, h.ks, h.bg, h.br⟩, f.mono fun g _ c => by rw [c]; exact Or.inr (Or.inr (Or.inr (Or.inr (Or.inr (rows_mem ht)))))⟩
  by_cases c : a = t
  · subst c
    have h2 := ht'.set p (.bool b)
    rw [flags_set] at h2
    rw [show flags n (fun q => if a = a ∧ q = p then b else fl a q) = flags n (fun q => if q = p then b else fl a q) from flags_congr (fun q _ => by simp)]
    exact h2
  · have hne : R.rows.getD a 0 ≠ R.rows.getD t 0 := fun e => c (by
      have := h.nd
      rw [List.getD_eq_getElem?_getD, List.getD_eq_getElem?_getD, List.getElem?_eq_getElem ha, List.getElem?_eq_getElem ht] at e
      exact (List.getElem_inj this).1 e)
    rw [show flags n (fun q => if a = t ∧ q = p then b else fl a q) = flags n (fl a) from flags_congr (fun q _ => by simp [c])]
    exact (h.row a ha).fr f hne
end
end Go.Proofs.Ytlnaffedbcpkpaa
