/- The document's device: words and flags that are turned, and what lines written back come to. Conditions: those that each theorem names. -/
import Derived.Test.YtbicloceaddinaaGreatKRefA
import Derived.Test.YtbicloceaddinaaGreatKFen
import Derived.BigRegion
import Derived.Deep.RegionHeld3
import Derived.IntWalk
import Derived.BigQuiet
import Derived.Deep.QuietTactic
namespace Go.Proofs.YtbicloceaddinaaGreat
open Go.ChangeShapes Go.WideShapes Go.ChangeAt Go.RowKit
set_option linter.unusedVariables false
/-- Of each word the one or the other. -/
def sel (L : Nat) (c : Nat → Bool) (a b : List Int) : List Int := (List.range L).map fun i => if c i = true then a.getD i 0 else b.getD i 0
/-- Of each number the next one, or itself. -/
def add1 (L : Nat) (c : Nat → Bool) (b : List Int) : List Int := (List.range L).map fun i => if c i = true then b.getD i 0 + 1 else b.getD i 0
theorem sel_len (L : Nat) (c : Nat → Bool) (a b : List Int) : (sel L c a b).length = L := by simp [sel]
theorem add1_len (L : Nat) (c : Nat → Bool) (b : List Int) : (add1 L c b).length = L := by simp [add1]
theorem sel_get (L : Nat) (c : Nat → Bool) (a b : List Int) (i : Nat) (h : i < L) : (sel L c a b).getD i 0 = if c i = true then a.getD i 0 else b.getD i 0 := by simp [sel, List.getD_eq_getElem?_getD, h]
theorem add1_get (L : Nat) (c : Nat → Bool) (b : List Int) (i : Nat) (h : i < L) : (add1 L c b).getD i 0 = if c i = true then b.getD i 0 + 1 else b.getD i 0 := by simp [add1, List.getD_eq_getElem?_getD, h]
theorem sel_congr {L : Nat} {c d : Nat → Bool} {a b : List Int} (h : ∀ i, i < L → c i = d i) : sel L c a b = sel L d a b := by
  unfold sel
  apply List.map_congr_left
  intro i hi
  rw [h i (by simpa using hi)]
theorem add1_congr {L : Nat} {c d : Nat → Bool} {b : List Int} (h : ∀ i, i < L → c i = d i) : add1 L c b = add1 L d b := by
  unfold add1
  apply List.map_congr_left
  intro i hi
  rw [h i (by simpa using hi)]
theorem list_getD {a b : List Int} (hl : a.length = b.length) (h : ∀ i, i < a.length → a.getD i 0 = b.getD i 0) : a = b := by
  apply List.ext_getElem hl
  intro i h1 h2
  have := h i h1
  rwa [List.getD_eq_getElem?_getD, List.getD_eq_getElem?_getD, List.getElem?_eq_getElem h1, List.getElem?_eq_getElem h2] at this
theorem set_getD (l : List Int) (j i : Nat) (x : Int) (hj : j < l.length) : (l.set j x).getD i 0 = if i = j then x else l.getD i 0 := by
  rw [List.getD_eq_getElem?_getD, List.getD_eq_getElem?_getD, List.getElem?_set]
  by_cases h : j = i
  · subst h; simp [hj]
  · rw [if_neg h, if_neg (fun e => h e.symm)]
theorem sel_none {L : Nat} {c : Nat → Bool} {a b : List Int} (hb : b.length = L) (h : ∀ i, i < L → c i = false) : sel L c a b = b :=
  list_getD ((sel_len _ _ _ _).trans hb.symm) fun i hi => by rw [sel_len] at hi; rw [sel_get _ _ _ _ _ hi, h i hi]; rfl
theorem sel_all {L : Nat} {c : Nat → Bool} {a b : List Int} (ha : a.length = L) (h : ∀ i, i < L → c i = true) : sel L c a b = a :=
  list_getD ((sel_len _ _ _ _).trans ha.symm) fun i hi => by rw [sel_len] at hi; rw [sel_get _ _ _ _ _ hi, h i hi]; rfl
theorem add1_none {L : Nat} {c : Nat → Bool} {b : List Int} (hb : b.length = L) (h : ∀ i, i < L → c i = false) : add1 L c b = b :=
  list_getD ((add1_len _ _ _).trans hb.symm) fun i hi => by rw [add1_len] at hi; rw [add1_get _ _ _ _ hi, h i hi]; rfl
theorem sel_set (L : Nat) (c d : Nat → Bool) (a b : List Int) (j : Nat) (hj : j < L) (h : ∀ i, i < L → d i = (c i || decide (i = j))) : (sel L c a b).set j (a.getD j 0) = sel L d a b :=
  list_getD (by rw [List.length_set, sel_len, sel_len]) fun i hi => by
    rw [List.length_set, sel_len] at hi
    rw [set_getD _ _ _ _ (by rw [sel_len]; exact hj), sel_get _ _ _ _ _ hi, sel_get _ _ _ _ _ hi, h i hi]
    by_cases e : i = j
    · subst e; simp
    · rw [if_neg e]; simp [e]
theorem add1_set (L : Nat) (c d : Nat → Bool) (b : List Int) (j : Nat) (hj : j < L) (hc : c j = false) (h : ∀ i, i < L → d i = (c i || decide (i = j))) : (add1 L c b).set j (b.getD j 0 + 1) = add1 L d b :=
  list_getD (by rw [List.length_set, add1_len, add1_len]) fun i hi => by
    rw [List.length_set, add1_len] at hi
    rw [set_getD _ _ _ _ (by rw [add1_len]; exact hj), add1_get _ _ _ _ hi, add1_get _ _ _ _ hi, h i hi]
    by_cases e : i = j
    · subst e; simp
    · rw [if_neg e]; simp [e]
theorem sel_sel (L : Nat) (c d : Nat → Bool) (a b : List Int) : sel L c a (sel L d a b) = sel L (fun i => c i || d i) a b :=
  list_getD (by rw [sel_len, sel_len]) fun i hi => by
    rw [sel_len] at hi
    rw [sel_get _ _ _ _ _ hi, sel_get _ _ _ _ _ hi, sel_get _ _ _ _ _ hi]
    cases c i <;> cases d i <;> rfl
theorem add1_add1 (L : Nat) (c d : Nat → Bool) (b : List Int) (h : ∀ i, i < L → (c i && d i) = false) : add1 L c (add1 L d b) = add1 L (fun i => c i || d i) b :=
  list_getD (by rw [add1_len, add1_len]) fun i hi => by
    rw [add1_len] at hi
    have := h i hi
    rw [add1_get _ _ _ _ hi, add1_get _ _ _ _ hi, add1_get _ _ _ _ hi]
    cases hc : c i <;> cases hd : d i <;> rw [hc, hd] at this <;> first | rfl | cases this
theorem back_sel {s : DSt} (h : Big s) (hw : s.writes.length = s.n) (p : Nat) (hp : p < s.n) : (s.back p).kept = sel (s.n * 8) (fun i => decide (i / 8 = p)) s.seen s.kept ∧ (s.back p).writes = add1 s.n (fun i => decide (i = p)) s.writes := by
  have hl := lineOf_len h.s p hp
  constructor
  · have hk : (s.back p).kept = put8 s.kept (p * 8) (lineOf s.seen p) := rfl
    refine list_getD (by rw [sel_len, hk, put8_len _ _ _ hl (by rw [h.k]; omega), h.k]) fun i hi => ?_
    rw [hk, put8_len _ _ _ hl (by rw [h.k]; omega), h.k] at hi
    rw [sel_get _ _ _ _ _ hi, hk, List.getD_eq_getElem?_getD, put8_get _ _ _ hl (by rw [h.k]; omega)]
    by_cases c : i / 8 = p
    · rw [if_pos (by omega), lineOf_get _ _ _ (by omega), show p * 8 + (i - p * 8) = i by omega]
      simp [c, List.getD_eq_getElem?_getD]
    · rw [if_neg (by omega)]
      simp [c, List.getD_eq_getElem?_getD]
  · have hk : (s.back p).writes = s.writes.set p (s.writes.getD p 0 + 1) := rfl
    rw [hk, ← add1_none (c := fun _ => false) hw (fun _ _ => rfl)]
    rw [add1_none (c := fun _ => false) hw (fun _ _ => rfl)]
    have := add1_set s.n (fun _ => false) (fun i => decide (i = p)) s.writes p hp rfl (fun i _ => by simp)
    rwa [add1_none (c := fun _ => false) hw (fun _ _ => rfl)] at this
theorem backs_sel (l : List Int) : ∀ s : DSt, Big s → s.writes.length = s.n → (∀ x ∈ l, 0 ≤ x ∧ x < (s.n : Int)) → l.Nodup →
    (s.backs l).kept = sel (s.n * 8) (fun i => l.contains ((i / 8 : Nat) : Int)) s.seen s.kept ∧ (s.backs l).writes = add1 s.n (fun i => l.contains (i : Int)) s.writes ∧ (s.backs l).seen = s.seen ∧ (s.backs l).n = s.n := by
  induction l with
  | nil =>
    intro s hb hw _ _
    exact ⟨(sel_none hb.k (fun _ _ => rfl)).symm, (add1_none hw (fun _ _ => rfl)).symm, rfl, rfl⟩
  | cons p l ih =>
    intro s hb hw hr hnd
    have hp := hr p List.mem_cons_self
    have hpn : p.toNat < s.n := by omega
    obtain ⟨e1, e2⟩ := back_sel hb hw p.toNat hpn
    have hw' : (s.back p.toNat).writes.length = (s.back p.toNat).n := by rw [e2, add1_len]; rfl
    obtain ⟨h1, h2, h3, h4⟩ := ih (s.back p.toNat) (hb.back _ hpn) hw' (fun x hx => hr x (List.mem_cons_of_mem _ hx)) (List.nodup_cons.1 hnd).2
    have e : s.backs (p :: l) = (s.back p.toNat).backs l := rfl
    have es : (s.back p.toNat).seen = s.seen := rfl
    have en : (s.back p.toNat).n = s.n := rfl
    rw [e]
    refine ⟨?_, ?_, h3, h4⟩
    · rw [h1, e1, es, en, sel_sel]
      refine sel_congr fun i hi => ?_
      rw [List.contains_cons, Bool.or_comm]
      congr 1
      rw [Bool.eq_iff_iff, decide_eq_true_iff, beq_iff_eq]
      omega
    · rw [h2, e2, en, add1_add1]
      · refine add1_congr fun i hi => ?_
        rw [List.contains_cons, Bool.or_comm]
        congr 1
        rw [Bool.eq_iff_iff, decide_eq_true_iff, beq_iff_eq]
        omega
      · intro i hi
        by_cases c : i = p.toNat
        · have : l.contains (i : Int) = false := by
            rw [show (i : Int) = p by omega]
            have := (List.nodup_cons.1 hnd).1
            simpa using this
          rw [this]; rfl
        · simp [c]
section
variable {B n L : Nat} {w w' : World} {R : RefB} {kept seen writes : List Int} {fl : Nat → Nat → Bool} {S : Nat → Prop}
theorem IsRef.wlen (h : IsRef B w R n kept seen writes fl) : writes.length = n := by
  obtain ⟨A, c, hv, _⟩ := h.writes.form
  injection hv with _ h2
  exact h2.symm
theorem IsRef.shape (h : IsRef B w R n kept seen writes fl) (hk : kept.length = L) (hs : seen.length = L) (L0 : 0 < L) (T0 : 0 < R.rows.length) :
    ∃ gk ck gs cs gf cf, R.vk = .slice (some ⟨gk, 0, none⟩) L ck ∧ R.vs = .slice (some ⟨gs, 0, none⟩) L cs ∧ R.vf = .slice (some ⟨gf, 0, none⟩) R.rows.length cf := by
  obtain ⟨gk, ck, e1, _⟩ := h.kept.at_ hk L0
  obtain ⟨gs, cs, e2, _⟩ := h.seen.at_ hs L0
  rcases h.flr.2 with ⟨_, h0⟩ | ⟨gf, cf, cur, e3, _⟩
  · rw [List.length_map] at h0; omega
  · rw [List.length_map] at e3
    exact ⟨gk, ck, gs, cs, gf, cf, e1, e2, e3⟩
theorem RowE.cell {us : List Value} {e : TypeId} {g c t : Nat} (h : RowE w B e (.slice (some ⟨g, 0, none⟩) us.length c) us) (ht : t < us.length) : w.cell? ⟨g, t, none⟩ = us[t]? := by
  rw [World.ownsRow.cellAt h t (by omega)]
/-- A thread's row of flags. -/
theorem IsRef.rowAt (h : IsRef B w R n kept seen writes fl) {gf cf : Nat} (e : R.vf = .slice (some ⟨gf, 0, none⟩) R.rows.length cf) (t : Nat) (ht : t < R.rows.length) : w.cell? ⟨gf, t, none⟩ = some (.slice (some ⟨R.rows.getD t 0, 0, none⟩) n n) := by
  have hf := h.flr
  rw [e, ← List.length_map (f := fun b => Value.slice (some ⟨b, 0, none⟩) n n)] at hf
  rw [RowE.cell hf (by rw [List.length_map]; exact ht), List.getElem?_map, List.getElem?_eq_getElem ht, List.getD_eq_getElem?_getD, List.getElem?_eq_getElem ht]
  rfl
theorem IsRef.flagAt (h : IsRef B w R n kept seen writes fl) (t p : Nat) (ht : t < R.rows.length) (hp : p < n) : w.cell? ⟨R.rows.getD t 0, p, none⟩ = some (.bool (fl t p)) := by
  rw [(h.row t ht).cell p]
  simp [flags, hp]
theorem IsRef.setK {gk ck : Nat} (h : IsRef B w R n kept seen writes fl) (e : R.vk = .slice (some ⟨gk, 0, none⟩) L ck) (hk : kept.length = L) (j : Nat) (z : Int) :
    IsRef B (w.setCell ⟨gk, j, none⟩ (.int .u64 z)) R n (kept.set j z) seen writes fl ∧ Fr R.foot w (w.setCell ⟨gk, j, none⟩ (.int .u64 z)) := by
  have ho : R.vk.ownBlock = some gk := by rw [e]; rfl
  have f := Fr.setCell (S := fun b => b = gk) (p := ⟨gk, j, none⟩) (Fr.refl _ w) (Or.inl rfl) (.int .u64 z)
  refine ⟨⟨h.blk.fr f (fun c => h.kept.blk h.blk (by decide) (by rw [c]; exact ho)), ?_, h.seen.fr f (fun b hb c => h.ks gk ho (by rw [← c]; exact hb)), h.writes.fr f (fun b hb c => h.kept.row2 h.writes (by decide) gk ho (by rw [← c]; exact hb)), h.flr.fr f (fun b hb c => h.kept.row h.flr (by decide) gk ho (by rw [← c]; exact hb)), fun t ht => (h.row t ht).fr f (fun c => h.kept.blk (h.row t ht) (by decide) (by rw [c]; exact ho)), h.nd, h.ks, h.bg, h.br⟩, f.mono fun b _ c => by rw [c]; exact Or.inr (Or.inl ho)⟩
  have h2 := RowN.of_row h.kept
  rw [e, hk] at h2
  rw [e]
  exact (h2.set (j := j) z).row
theorem IsRef.setS {gs cs : Nat} (h : IsRef B w R n kept seen writes fl) (e : R.vs = .slice (some ⟨gs, 0, none⟩) L cs) (hk : seen.length = L) (j : Nat) (z : Int) :
    IsRef B (w.setCell ⟨gs, j, none⟩ (.int .u64 z)) R n kept (seen.set j z) writes fl ∧ Fr R.foot w (w.setCell ⟨gs, j, none⟩ (.int .u64 z)) := by
  have ho : R.vs.ownBlock = some gs := by rw [e]; rfl
  have f := Fr.setCell (S := fun b => b = gs) (p := ⟨gs, j, none⟩) (Fr.refl _ w) (Or.inl rfl) (.int .u64 z)
  refine ⟨⟨h.blk.fr f (fun c => h.seen.blk h.blk (by decide) (by rw [c]; exact ho)), h.kept.fr f (fun b hb c => h.ks gs (by rw [← c]; exact hb) ho), ?_, h.writes.fr f (fun b hb c => h.seen.row2 h.writes (by decide) gs ho (by rw [← c]; exact hb)), h.flr.fr f (fun b hb c => h.seen.row h.flr (by decide) gs ho (by rw [← c]; exact hb)), fun t ht => (h.row t ht).fr f (fun c => h.seen.blk (h.row t ht) (by decide) (by rw [c]; exact ho)), h.nd, h.ks, h.bg, h.br⟩, f.mono fun b _ c => by rw [c]; exact Or.inr (Or.inr (Or.inl ho))⟩
  have h2 := RowN.of_row h.seen
  rw [e, hk] at h2
  rw [e]
  exact (h2.set (j := j) z).row
theorem IsRef.setW (h : IsRef B w R n kept seen writes fl) (j : Nat) (z : Int) :
    IsRef B (w.setCell ⟨R.gw, j, none⟩ (.int .i64 z)) R n kept seen (writes.set j z) fl ∧ Fr R.foot w (w.setCell ⟨R.gw, j, none⟩ (.int .i64 z)) := by
  have ho : (Value.slice (some ⟨R.gw, 0, none⟩) n n).ownBlock = some R.gw := rfl
  have f := Fr.setCell (S := fun b => b = R.gw) (p := ⟨R.gw, j, none⟩) (Fr.refl _ w) (Or.inl rfl) (.int .i64 z)
  refine ⟨⟨h.blk.fr f (fun c => h.writes.blk h.blk (by decide) (by rw [c]; exact ho)), h.kept.fr f (fun b hb c => h.kept.row2 h.writes (by decide) b hb (by rw [c]; exact ho)), h.seen.fr f (fun b hb c => h.seen.row2 h.writes (by decide) b hb (by rw [c]; exact ho)), ?_, h.flr.fr f (fun b hb c => h.writes.row h.flr (by decide) R.gw ho (by rw [← c]; exact hb)), fun t ht => (h.row t ht).fr f (fun c => h.writes.blk (h.row t ht) (by decide) (by rw [c]; exact ho)), h.nd, h.ks, h.bg, h.br⟩, f.mono fun b _ c => by rw [c]; exact Or.inr (Or.inr (Or.inr (Or.inl rfl)))⟩
  have h2 := RowN.of_row h.writes
  rw [h.wlen] at h2
  exact (h2.set (j := j) z).row
theorem flags_set (n : Nat) (f : Nat → Bool) (p : Nat) (b : Bool) : (flags n f).set p (.bool b) = flags n (fun q => if q = p then b else f q) := by
  unfold flags
  apply List.ext_getElem
  · simp
  · intro i h1 h2
    simp only [List.length_set, List.length_map, List.length_range] at h1
    rw [List.getElem_set]
    by_cases c : p = i
    · subst c; simp
    · have c' : ¬ i = p := fun e => c e.symm
      simp [c, c']
theorem flags_congr {n : Nat} {f g : Nat → Bool} (h : ∀ p, p < n → f p = g p) : flags n f = flags n g := by
  unfold flags
  apply List.map_congr_left
  intro i hi
  rw [h i (by simpa using hi)]
theorem IsRef.flagsTo {fl' : Nat → Nat → Bool} (h : IsRef B w R n kept seen writes fl) (he : ∀ t p, t < R.rows.length → p < n → fl t p = fl' t p) : IsRef B w R n kept seen writes fl' :=
  ⟨h.blk, h.kept, h.seen, h.writes, h.flr, fun t ht => by rw [← flags_congr (fun p hp => he t p ht hp)]; exact h.row t ht, h.nd, h.ks, h.bg, h.br⟩
theorem IsRef.setF (h : IsRef B w R n kept seen writes fl) (t p : Nat) (b : Bool) (ht : t < R.rows.length) :
    IsRef B (w.setCell ⟨R.rows.getD t 0, p, none⟩ (.bool b)) R n kept seen writes (fun a q => if a = t ∧ q = p then b else fl a q) ∧ Fr R.foot w (w.setCell ⟨R.rows.getD t 0, p, none⟩ (.bool b)) := by
  have f := Fr.setCell (S := fun c => c = R.rows.getD t 0) (p := ⟨R.rows.getD t 0, p, none⟩) (Fr.refl _ w) (Or.inl rfl) (.bool b)
  have ht' := h.row t ht
  refine ⟨⟨h.blk.fr f (fun c => ht'.ne h.blk (by decide) c.symm), h.kept.fr f (fun g hg c => h.kept.blk ht' (by decide) (by rw [← c]; exact hg)), h.seen.fr f (fun g hg c => h.seen.blk ht' (by decide) (by rw [← c]; exact hg)), h.writes.fr f (fun g hg c => h.writes.blk ht' (by decide) (by rw [← c]; exact hg)), h.flr.fr f (fun g hg c => h.flr.blk ht' (by decide) (by rw [← c]; exact hg)), fun a ha => ?_, h.nd, h.ks, h.bg, h.br⟩, f.mono fun g _ c => by rw [c]; exact Or.inr (Or.inr (Or.inr (Or.inr (Or.inr (rows_mem ht)))))⟩
  by_cases c : a = t
  · subst c
    have h2 := ht'.set p (.bool b)
    rw [flags_set] at h2
    rw [show flags n (fun q => if a = a ∧ q = p then b else fl a q) = flags n (fun q => if q = p then b else fl a q) from flags_congr (fun q _ => by simp)]
    exact h2
  · have hne : R.rows.getD a 0 ≠ R.rows.getD t 0 := fun e => c (by
      have := h.nd
      rw [List.getD_eq_getElem?_getD, List.getD_eq_getElem?_getD, List.getElem?_eq_getElem ha, List.getElem?_eq_getElem ht] at e
      exact (List.getElem_inj this).1 e)
    rw [show flags n (fun q => if a = t ∧ q = p then b else fl a q) = flags n (fl a) from flags_congr (fun q _ => by simp [c])]
    exact (h.row a ha).fr f hne
end
end Go.Proofs.YtbicloceaddinaaGreat


/- The document's device: Load, Store, and Do where it flushes, or refuses. Conditions: those that each theorem names. -/
namespace Go.Proofs.YtbicloceaddinaaGreat
open Go.ChangeShapes Go.WideShapes Go.ChangeAt Go.RowKit
set_option linter.unusedVariables false
section
variable {B : Nat} {w : World} {R : RefB} {s : DSt}
theorem RefAt.sh (h : RefAt B w R s) (n0 : 0 < s.n) (T0 : 0 < s.T) : ∃ gk ck gs cs gf cf, R.vk = .slice (some ⟨gk, 0, none⟩) (s.n * 8) ck ∧ R.vs = .slice (some ⟨gs, 0, none⟩) (s.n * 8) cs ∧ R.vf = .slice (some ⟨gf, 0, none⟩) s.T cf := by
  have := h.is.shape h.lk h.ls (by omega) (by rw [h.lr]; exact T0)
  rw [h.lr] at this
  exact this
theorem RefAt.store (h : RefAt B w R s) (n0 : 0 < s.n) {gs cs : Nat} (e : R.vs = .slice (some ⟨gs, 0, none⟩) (s.n * 8) cs) (p : Nat) (x : Int) :
    RefAt B (w.setCell ⟨gs, p, none⟩ (.int .u64 x)) R { s with seen := s.seen.set p x } ∧ Fr R.foot w (w.setCell ⟨gs, p, none⟩ (.int .u64 x)) := by
  obtain ⟨h1, f⟩ := h.is.setS e h.ls p x
  exact ⟨⟨h1, h.lr, h.lk, by simp only [List.length_set]; exact h.ls⟩, f⟩
set_option maxRecDepth 100000 in
set_option maxHeartbeats 2000000 in
theorem refDo_thread (h : RefAt B w R s) (n0 : 0 < s.n) (T0 : 0 < s.T) (T1 : s.T ≤ 64) (k t l : Int) (hk : k = 0 ∨ k = 1) (ht : ¬ (0 ≤ t ∧ t < (s.T : Int))) :
    Calls Tryz.prog 75 #[R.ptr, .int .i64 k, .int .i64 t, .int .i64 l] w fun e w' => e = .returned (.int .i64 1) ∧ w = w' := by
  obtain ⟨gk, ck, gs, cs, gf, cf, _, _, e3⟩ := h.sh n0 T0
  have c3 : w.cell? ⟨R.g, 3, none⟩ = some R.vf := h.is.blk.cell 3
  rw [e3] at c3
  unfold RefB.ptr
  generalize R.g = g at *
  clear h
  by_cases h0 : t < 0
  · rcases hk with rfl | rfl
    all_goals
      go_enter Tryz.func75, Tryz.ntmps75
      go_wp2_with fail
      go_ret
      exact ⟨rfl, rfl⟩
  · obtain ⟨p, rfl⟩ := Int.eq_ofNat_of_zero_le (show 0 ≤ t by omega)
    have u3 : decide (s.T ≤ p) = true := by simp; omega
    have u4 : (s.T : Int) ≤ (p : Int) := by omega
    generalize s.T = T at *
    clear ht
    rcases hk with rfl | rfl
    all_goals
      go_enter Tryz.func75, Tryz.ntmps75
      go_wp2_with fail
      go_ret
      exact ⟨rfl, rfl⟩
set_option maxRecDepth 100000 in
set_option maxHeartbeats 2000000 in
theorem refDo_line (h : RefAt B w R s) (n0 : 0 < s.n) (n1 : s.n ≤ 262144) (T0 : 0 < s.T) (T1 : s.T ≤ 64) (k t l : Int) (hk : k = 0 ∧ 0 ≤ t ∧ t < (s.T : Int) ∨ k = 2) (hl : ¬ (0 ≤ l ∧ l < (s.n : Int))) :
    Calls Tryz.prog 75 #[R.ptr, .int .i64 k, .int .i64 t, .int .i64 l] w fun e w' => e = .returned (.int .i64 5) ∧ w = w' := by
  obtain ⟨gk, ck, gs, cs, gf, cf, _, _, e3⟩ := h.sh n0 T0
  have c3 : w.cell? ⟨R.g, 3, none⟩ = some R.vf := h.is.blk.cell 3
  have c2 : w.cell? ⟨R.g, 2, none⟩ = some (.slice (some ⟨R.gw, 0, none⟩) s.n s.n) := h.is.blk.cell 2
  rw [e3] at c3
  unfold RefB.ptr
  generalize R.g = g at *
  clear h
  by_cases h0 : l < 0
  · rcases hk with ⟨rfl, ht0, ht1⟩ | rfl
    · obtain ⟨p, rfl⟩ := Int.eq_ofNat_of_zero_le ht0
      have u3 : decide (s.T ≤ p) = false := by simp; omega
      generalize s.T = T at *
      go_enter Tryz.func75, Tryz.ntmps75
      go_wp2_with fail
      go_ret
      exact ⟨rfl, rfl⟩
    · go_enter Tryz.func75, Tryz.ntmps75
      go_wp2_with fail
      go_ret
      exact ⟨rfl, rfl⟩
  · obtain ⟨q, rfl⟩ := Int.eq_ofNat_of_zero_le (show 0 ≤ l by omega)
    have u4 : decide (s.n ≤ q) = true := by simp; omega
    generalize s.n = n at *
    rcases hk with ⟨rfl, ht0, ht1⟩ | rfl
    · obtain ⟨p, rfl⟩ := Int.eq_ofNat_of_zero_le ht0
      have u3 : decide (s.T ≤ p) = false := by simp; omega
      generalize s.T = T at *
      clear hl
      go_enter Tryz.func75, Tryz.ntmps75
      go_wp2_with fail
      go_ret
      exact ⟨rfl, rfl⟩
    · clear hl
      go_enter Tryz.func75, Tryz.ntmps75
      go_wp2_with fail
      go_ret
      exact ⟨rfl, rfl⟩
set_option maxRecDepth 100000 in
set_option maxHeartbeats 2000000 in
theorem refDo_flush (h : RefAt B w R s) (n0 : 0 < s.n) (n1 : s.n ≤ 262144) (T0 : 0 < s.T) (T1 : s.T ≤ 64) (t l : Nat) (ht : t < s.T) (hl : l < s.n) :
    Calls Tryz.prog 75 #[R.ptr, .int .i64 0, .int .i64 (t : Int), .int .i64 (l : Int)] w fun e w' => e = .returned (.int .i64 0) ∧ IsRef B w' R s.n s.kept s.seen s.writes (fun a q => if a = t ∧ q = l then true else s.flag a q) ∧ Fr R.foot w w' := by
  obtain ⟨gk, ck, gs, cs, gf, cf, _, _, e3⟩ := h.sh n0 T0
  have e3' : R.vf = .slice (some ⟨gf, 0, none⟩) R.rows.length cf := by rw [h.lr]; exact e3
  have htr : t < R.rows.length := by rw [h.lr]; exact ht
  have c3 : w.cell? ⟨R.g, 3, none⟩ = some R.vf := h.is.blk.cell 3
  have c2 : w.cell? ⟨R.g, 2, none⟩ = some (.slice (some ⟨R.gw, 0, none⟩) s.n s.n) := h.is.blk.cell 2
  have cr := h.is.rowAt e3' t htr
  have cf' := (h.is.row t htr).frozen l
  have cc := h.is.flagAt t l htr hl
  have HF := Lib.hid (h.is.setF t l true htr)
  rw [e3] at c3
  unfold RefB.ptr
  generalize hgr : R.rows.getD t 0 = gr at *
  generalize R.gw = gw at *
  generalize R.g = g at c2 c3 ⊢
  clear h hgr e3 e3' htr
  have u3 : decide (s.T ≤ t) = false := by simp; omega
  have u4 : decide (s.n ≤ l) = false := by simp; omega
  have u5 : (l : Int) < (s.n : Int) := by omega
  have u6 : (t : Int) < (s.T : Int) := by omega
  generalize s.n = n at *
  generalize s.T = T at *
  go_enter Tryz.func75, Tryz.ntmps75
  go_wp2_with fail
  go_ret
  exact ⟨rfl, HF.out⟩
end
end Go.Proofs.YtbicloceaddinaaGreat


/- The document's device: Do where lines are written back, and where all is lost. Conditions: those that each theorem names. -/
namespace Go.Proofs.YtbicloceaddinaaGreat
open Go.ChangeShapes Go.WideShapes Go.ChangeAt Go.RowKit
set_option linter.unusedVariables false
/-- The words behind so many lines, and words of the next. -/
def cAt (f : Nat → Bool) (q j : Nat) (i : Nat) : Bool := (decide (i / 8 < q) && f (i / 8)) || (decide (i / 8 = q) && decide (i % 8 < j))
def wAt (f : Nat → Bool) (q : Nat) (p : Nat) : Bool := decide (p < q) && f p
theorem cAt_next (f : Nat → Bool) (q j i : Nat) (hj : j < 8) : cAt f q (j + 1) i = (cAt f q j i || decide (i = q * 8 + j)) := by
  unfold cAt
  rw [Bool.eq_iff_iff]
  simp only [Bool.or_eq_true, Bool.and_eq_true, decide_eq_true_eq]
  constructor
  · rintro (h | ⟨h1, h2⟩)
    · exact Or.inl (Or.inl h)
    · by_cases e : i % 8 = j
      · exact Or.inr (by omega)
      · exact Or.inl (Or.inr ⟨h1, by omega⟩)
  · rintro ((h | ⟨h1, h2⟩) | h)
    · exact Or.inl h
    · exact Or.inr ⟨h1, by omega⟩
    · exact Or.inr ⟨by omega, by omega⟩
theorem cAt_up (f : Nat → Bool) (q i : Nat) (h : f q = true) : cAt f q 8 i = cAt f (q + 1) 0 i := by
  unfold cAt
  rw [Bool.eq_iff_iff]
  simp only [Bool.or_eq_true, Bool.and_eq_true, decide_eq_true_eq]
  constructor
  · rintro (⟨h1, h2⟩ | ⟨h1, h2⟩)
    · exact Or.inl ⟨by omega, h2⟩
    · exact Or.inl ⟨by omega, by rw [h1]; exact h⟩
  · rintro (⟨h1, h2⟩ | ⟨h1, h2⟩)
    · by_cases e : i / 8 = q
      · exact Or.inr ⟨e, by omega⟩
      · exact Or.inl ⟨by omega, h2⟩
    · omega
theorem cAt_skip (f : Nat → Bool) (q i : Nat) (h : f q = false) : cAt f q 0 i = cAt f (q + 1) 0 i := by
  unfold cAt
  rw [Bool.eq_iff_iff]
  simp only [Bool.or_eq_true, Bool.and_eq_true, decide_eq_true_eq]
  constructor
  · rintro (⟨h1, h2⟩ | ⟨h1, h2⟩)
    · exact Or.inl ⟨by omega, h2⟩
    · omega
  · rintro (⟨h1, h2⟩ | ⟨h1, h2⟩)
    · by_cases e : i / 8 = q
      · rw [e, h] at h2; cases h2
      · exact Or.inl ⟨by omega, h2⟩
    · omega
theorem cAt_zero (f : Nat → Bool) (i : Nat) : cAt f 0 0 i = false := by unfold cAt; simp
theorem cAt_end (f : Nat → Bool) (n i : Nat) (h : i < n * 8) : cAt f n 0 i = f (i / 8) := by
  unfold cAt
  rw [show decide (i / 8 < n) = true by simp; omega]
  simp
theorem wAt_zero (f : Nat → Bool) (p : Nat) : wAt f 0 p = false := by unfold wAt; simp
theorem wAt_end (f : Nat → Bool) (n p : Nat) (h : p < n) : wAt f n p = f p := by unfold wAt; simp [h]
theorem wAt_skip (f : Nat → Bool) (q p : Nat) (h : f q = false) : wAt f q p = wAt f (q + 1) p := by
  unfold wAt
  by_cases e : p = q
  · subst e; simp [h]
  · rw [show decide (p < q + 1) = decide (p < q) from decide_eq_decide.2 (by omega)]
theorem wAt_next (f : Nat → Bool) (q p : Nat) (h : f q = true) : wAt f (q + 1) p = (wAt f q p || decide (p = q)) := by
  unfold wAt
  by_cases e : p = q
  · subst e; simp [h]
  · rw [show decide (p < q + 1) = decide (p < q) from decide_eq_decide.2 (by omega)]; simp [e]
theorem ite_iff {P Q : Prop} [Decidable P] [Decidable Q] (h : P ↔ Q) (x y : Bool) : (if P then x else y) = if Q then x else y := by
  by_cases p : P
  · rw [if_pos p, if_pos (h.1 p)]
  · rw [if_neg p, if_neg (fun q => p (h.2 q))]
def flagsOut (c : Nat → Bool) (fl : Nat → Nat → Bool) (a q : Nat) : Bool := if c a = true then false else fl a q
/-- The flags behind so many threads, and lines of the next. -/
def fAt (c : Nat → Bool) (fl : Nat → Nat → Bool) (a p : Nat) (b q : Nat) : Bool := if (b < a ∨ b = a ∧ q < p) ∧ c b = true then false else fl b q
theorem fAt_zero (c : Nat → Bool) (fl : Nat → Nat → Bool) (b q : Nat) : fAt c fl 0 0 b q = fl b q := by unfold fAt; rw [if_neg (by omega)]
theorem fAt_up (c : Nat → Bool) (fl : Nat → Nat → Bool) (a n b q : Nat) (h : q < n) : fAt c fl a n b q = fAt c fl (a + 1) 0 b q := by
  unfold fAt
  exact ite_iff (and_congr (by omega) Iff.rfl) _ _
theorem fAt_skip (c : Nat → Bool) (fl : Nat → Nat → Bool) (a p b q : Nat) (h : c a = false) : fAt c fl a p b q = fAt c fl a (p + 1) b q := by
  unfold fAt
  by_cases e : b = a
  · subst e; rw [h]; simp
  · exact ite_iff (and_congr (by omega) Iff.rfl) _ _
theorem fAt_next (c : Nat → Bool) (fl : Nat → Nat → Bool) (a p b q : Nat) (h : c a = true) : (if b = a ∧ q = p then false else fAt c fl a p b q) = fAt c fl a (p + 1) b q := by
  unfold fAt
  by_cases e : b = a ∧ q = p
  · rw [if_pos e, if_pos ⟨by omega, by rw [e.1]; exact h⟩]
  · rw [if_neg e]
    exact ite_iff (and_congr (by omega) Iff.rfl) _ _
theorem fAt_end (c : Nat → Bool) (fl : Nat → Nat → Bool) (T b q : Nat) (h : b < T) : fAt c fl T 0 b q = flagsOut c fl b q := by
  unfold fAt flagsOut
  by_cases e : c b = true
  · rw [if_pos ⟨Or.inl h, e⟩, if_pos e]
  · rw [if_neg (fun x => e x.2), if_neg e]
set_option maxRecDepth 100000 in
set_option maxHeartbeats 2000000 in
theorem refDo_fence {B n L T : Nat} {w : World} {R : RefB} {kept seen writes : List Int} {fl : Nat → Nat → Bool} (h : IsRef B w R n kept seen writes fl) (n0 : 0 < n) (n1 : n ≤ 262144) (hL : n * 8 = L) (hk : kept.length = L) (hs : seen.length = L) (hT : R.rows.length = T) (T0 : 0 < T) (T1 : T ≤ 64) (hw : ∀ p, -1 ≤ writes.getD p 0 ∧ writes.getD p 0 < 1000000000000) (t : Nat) (l : Int) (ht : t < R.rows.length) :
    Calls Tryz.prog 75 #[R.ptr, .int .i64 1, .int .i64 (t : Int), .int .i64 l] w fun e w' => e = .returned (.int .i64 0) ∧ IsRef B w' R n (sel L (fun i => (fun q => fl t q) (i / 8)) seen kept) seen (add1 n (fun q => fl t q) writes) (flagsOut (fun b => decide (b = t)) fl) ∧ Fr R.foot w w' := by
  obtain ⟨gk, ck, gs, cs, gf, cf, e1, e2, e3⟩ := h.shape hk hs (by omega) (by omega)
  rw [hT] at e3
  have hwl := h.wlen
  have c3 : w.cell? ⟨R.g, 3, none⟩ = some (.slice (some ⟨gf, 0, none⟩) T cf) := by rw [← e3]; exact h.blk.cell 3
  have c2 : w.cell? ⟨R.g, 2, none⟩ = some (.slice (some ⟨R.gw, 0, none⟩) n n) := h.blk.cell 2
  have HT := Lib.hid hT
  have E1 := Lib.hid e1
  have E2 := Lib.hid e2
  have E3 := Lib.hid e3
  have HK := Lib.hid hk
  have HS := Lib.hid hs
  have HL := Lib.hid hL
  have HWL := Lib.hid hwl
  have HWW := Lib.hid hw
  have H0 := Lib.hid h
  unfold RefB.ptr
  obtain ⟨g, hg⟩ : ∃ g, R.g = g := ⟨_, rfl⟩
  obtain ⟨gw, hgw⟩ : ∃ gw, R.gw = gw := ⟨_, rfl⟩
  have HG := Lib.hid hg
  have HGW := Lib.hid hgw
  rw [hg] at c2 c3 ⊢
  rw [hgw] at c2
  clear hT e1 e2 e3 hk hs hwl h hg hgw hw
  obtain ⟨f, hf⟩ : ∃ f : Nat → Bool, f = (fun q => fl t q) := ⟨_, rfl⟩
  obtain ⟨c, hc⟩ : ∃ c : Nat → Bool, c = (fun b => decide (b = t)) := ⟨_, rfl⟩
  have HF0 := Lib.hid hf
  have HC0 := Lib.hid hc
  clear hf hc
  have u3 : decide (T ≤ t) = false := by have := HT.out; simp; omega
  have u6 : (t : Int) < (T : Int) := by have := HT.out; omega
  go_enter Tryz.func75, Tryz.ntmps75
  go_wp2_with fail
  clear c2 c3
  go_loopw [9] (fun i wr => ∃ q : Nat, q ≤ n ∧ i = .int .i64 q ∧ IsRef B wr R n (sel L (cAt f q 0) seen kept) seen (add1 n (wAt f q) writes) fl ∧ Fr R.foot w wr) (fun i _ => n - (intOf i).toNat)
  case atStart => exact ⟨0, by omega, rfl, by rw [sel_none HK.out (fun i _ => cAt_zero _ i), add1_none HWL.out (fun i _ => wAt_zero _ i)]; exact H0.out, Fr.refl _ _⟩
  case round =>
    obtain ⟨q, hq, rfl, hR, fR⟩ := hrel
    have c2 : wr.cell? ⟨g, 2, none⟩ = some (.slice (some ⟨gw, 0, none⟩) n n) := by rw [← HG.out, ← HGW.out]; exact hR.blk.cell 2
    have c3 : wr.cell? ⟨g, 3, none⟩ = some (.slice (some ⟨gf, 0, none⟩) T cf) := by rw [← HG.out, ← E3.out]; exact hR.blk.cell 3
    have HR := Lib.hid hR
    have FR := Lib.hid fR
    clear hR fR
    by_cases hlt : q < n
    · have v1 : decide (q < n) = true := by simp; omega
      have v2 : (q : Int) < (n : Int) := by omega
      have r1 : wr.cell? ⟨gf, t, none⟩ = some (.slice (some ⟨R.rows.getD t 0, 0, none⟩) n n) := HR.out.rowAt (by rw [HT.out]; exact E3.out) t ht
      have r2 : wr.cell? ⟨R.rows.getD t 0, q, none⟩ = some (.bool (fl t q)) := HR.out.flagAt t q ht hlt
      generalize R.rows.getD t 0 = gr at r1 r2
      obtain ⟨b, hb⟩ : ∃ b, fl t q = b := ⟨_, rfl⟩
      rw [hb] at r2
      have HB : Hid (f q = b) := Lib.hid (by rw [HF0.out]; exact hb)
      clear hb
      cases b
      · go_wp2_with fail
        go_roundw
        case rel => exact ⟨q + 1, by omega, by go_num, by rw [sel_congr (fun i _ => (cAt_skip f q i HB.out).symm), add1_congr (fun p _ => (wAt_skip f q p HB.out).symm)]; exact HR.out, FR.out⟩
        case measure => simp [intOf]; omega
      · generalize wr = w2 at *
        go_wp2_with fail
        go_loopw [10] (fun i wr => ∃ j : Nat, j ≤ 8 ∧ i = .int .i64 j ∧ IsRef B wr R n (sel L (cAt f q j) seen kept) seen (add1 n (wAt f q) writes) fl ∧ Fr R.foot w wr) (fun i _ => 8 - (intOf i).toNat)
        case atStart => exact ⟨0, by omega, rfl, HR.out, FR.out⟩
        case round =>
          clear HR FR c2 c3 r1 r2
          obtain ⟨j, hj, rfl, hR, fR⟩ := hrel
          by_cases hlj : j < 8
          · obtain ⟨p, hp⟩ : ∃ p, q * 8 + j = p := ⟨_, rfl⟩
            have hpL : p < L := by have := HL.out; omega
            have c0 : wr.cell? ⟨g, 0, none⟩ = some (.slice (some ⟨gk, 0, none⟩) L ck) := by rw [← HG.out, ← E1.out]; exact hR.blk.cell 0
            have c1 : wr.cell? ⟨g, 1, none⟩ = some (.slice (some ⟨gs, 0, none⟩) L cs) := by rw [← HG.out, ← E2.out]; exact hR.blk.cell 1
            have hrs := RowN.of_row hR.seen
            rw [E2.out, HS.out] at hrs
            have hrk := RowN.of_row hR.kept
            rw [E1.out, sel_len] at hrk
            have q1 : wr.cell? ⟨gs, p, none⟩ = some (.int .u64 (seen.getD p 0)) := hrs.cell (by omega)
            have q2 : wr.frozen? ⟨gk, p, none⟩ = false := hrk.frozen p
            have q3 := hrk.cell (j := p) (by omega)
            have hset := Lib.hid (hR.setK E1.out (sel_len _ _ _ _) p (seen.getD p 0))
            have hX : 8 * (q : Int) + (j : Int) = (p : Int) := by omega
            have hpL2 : (p : Int) < (L : Int) := by omega
            have HP := Lib.hid hp
            have FR := Lib.hid fR
            have hL1 : L ≤ 2097152 := by have := HL.out; omega
            clear hR fR hrs hrk hp
            generalize (sel L (cAt f q j) seen kept).getD p 0 = y at q3
            obtain ⟨x, hx⟩ : ∃ x, seen.getD p 0 = x := ⟨_, rfl⟩
            rw [hx] at q1 hset
            have HX := Lib.hid hx
            clear hx
            go_wp2_with fail
            go_region
            have hs1 := hset.out.1
            have hs2 := hset.out.2
            rw [← HX.out, sel_set L (cAt f q j) (cAt f q (j + 1)) seen kept p hpL (fun i _ => by rw [cAt_next f q j i hlj, HP.out])] at hs1
            rw [← HX.out] at hs2
            have HS1 := Lib.hid hs1
            have HS2 := Lib.hid (FR.out.trans hs2 (fun g _ hg => hg))
            clear hs1 hs2 hset q1 q2 q3 c0 c1
            rw [← HX.out]
            go_wp2_with fail
            go_roundw
            case rel => exact ⟨j + 1, by omega, by go_num, by first | exact HS1.out | exact HS1.out.ext (Ext.refl _).drew, by first | exact HS2.out | exact HS2.out.drew⟩
            case measure => simp [intOf]; omega
          · obtain rfl : j = 8 := by omega
            have c2 : wr.cell? ⟨g, 2, none⟩ = some (.slice (some ⟨gw, 0, none⟩) n n) := by rw [← HG.out, ← HGW.out]; exact hR.blk.cell 2
            have hrw := RowN.of_row hR.writes
            rw [add1_len, HGW.out] at hrw
            have q1 : wr.cell? ⟨gw, q, none⟩ = some (.int .i64 (writes.getD q 0)) := by
              have := hrw.cell (j := q) (by omega)
              rw [add1_get _ _ _ _ hlt, show wAt f q q = false by unfold wAt; simp] at this
              exact this
            have q2 : wr.frozen? ⟨gw, q, none⟩ = false := hrw.frozen q
            have hset := Lib.hid (hR.setW q (writes.getD q 0 + 1))
            have hxw := HWW.out q
            have FR := Lib.hid fR
            clear hR fR hrw
            obtain ⟨x, hx⟩ : ∃ x, writes.getD q 0 = x := ⟨_, rfl⟩
            rw [hx] at q1 hset hxw
            have HX := Lib.hid hx
            clear hx
            have hxi : IntKind.i64.wrap (x + 1) = x + 1 := IntWalk.i64_in _ (by omega)
            go_wp2_with fail
            go_region
            have hs1 := hset.out.1
            have hs2 := hset.out.2
            rw [HGW.out] at hs1 hs2
            rw [← HX.out, add1_set n (wAt f q) (wAt f (q + 1)) writes q hlt (by unfold wAt; simp) (fun i _ => wAt_next f q i HB.out), sel_congr (fun i _ => cAt_up f q i HB.out)] at hs1
            rw [← HX.out] at hs2
            have HS1 := Lib.hid hs1
            have HS2 := Lib.hid (FR.out.trans hs2 (fun g _ hg => hg))
            clear hs1 hs2 hset q1 q2 c2
            rw [← HX.out]
            go_wp2_with fail
            go_roundw
            case rel => exact ⟨q + 1, by omega, by go_num, by first | exact HS1.out | exact HS1.out.ext (Ext.refl _).drew, by first | exact HS2.out | exact HS2.out.drew⟩
            case measure => simp [intOf]; omega
    · have v1 : decide (q < n) = false := by simp; omega
      have v2 : ¬ (q : Int) < (n : Int) := by omega
      obtain rfl : q = n := by omega
      have hR := HR.out
      have fR := FR.out
      rw [sel_congr (fun i hi => cAt_end f q i (by have := HL.out; omega)), add1_congr (fun p hp => wAt_end f q p hp)] at hR
      have HR1 := Lib.hid hR
      have FR1 := Lib.hid fR
      clear hR fR HR FR
      obtain ⟨kept1, hk1⟩ : ∃ z, z = (sel L (fun i => f (i / 8)) seen kept) := ⟨_, rfl⟩
      obtain ⟨writes1, hw1⟩ : ∃ z, z = (add1 q f writes) := ⟨_, rfl⟩
      have HR1' : Hid (IsRef B wr R q kept1 seen writes1 fl) := Lib.hid (by rw [hk1, hw1]; exact HR1.out)
      clear HR1
      have HR1 := Lib.hid HR1'.out
      have HK1 : Hid (kept1.length = L) := Lib.hid (by rw [hk1]; exact sel_len _ _ _ _)
      have HKE := Lib.hid hk1
      have HWE := Lib.hid hw1
      clear hk1 hw1 HR1'
      go_wp2_with fail
      clear c2 c3
      generalize wr = w3 at *
      go_loopw [11] (fun i wr => ∃ a : Nat, a ≤ T ∧ i = .int .i64 a ∧ IsRef B wr R q kept1 seen writes1 (fAt c fl a 0) ∧ Fr R.foot w wr) (fun i _ => T - (intOf i).toNat)
      case atStart => exact ⟨0, by omega, rfl, HR1.out.flagsTo (fun t p _ _ => (fAt_zero _ _ t p).symm), FR1.out⟩
      case round =>
        clear HR1 FR1
        obtain ⟨a, ha, rfl, hR, fR⟩ := hrel
        have c2 : wr.cell? ⟨g, 2, none⟩ = some (.slice (some ⟨gw, 0, none⟩) q q) := by rw [← HG.out, ← HGW.out]; exact hR.blk.cell 2
        have c3 : wr.cell? ⟨g, 3, none⟩ = some (.slice (some ⟨gf, 0, none⟩) T cf) := by rw [← HG.out, ← E3.out]; exact hR.blk.cell 3
        have HR := Lib.hid hR
        have FR := Lib.hid fR
        clear hR fR
        by_cases hla : a < T
        · have x1 : decide (a < T) = true := by simp; omega
          have x2 : (a : Int) < (T : Int) := by omega
          go_wp2_with fail
          clear c2 c3
          generalize wr = w4 at *
          go_loopw [12] (fun i wr => ∃ p : Nat, p ≤ q ∧ i = .int .i64 p ∧ IsRef B wr R q kept1 seen writes1 (fAt c fl a p) ∧ Fr R.foot w wr) (fun i _ => q - (intOf i).toNat)
          case atStart => exact ⟨0, by omega, rfl, HR.out, FR.out⟩
          case round =>
            clear HR FR
            obtain ⟨p, hp, rfl, hR, fR⟩ := hrel
            have c2 : wr.cell? ⟨g, 2, none⟩ = some (.slice (some ⟨gw, 0, none⟩) q q) := by rw [← HG.out, ← HGW.out]; exact hR.blk.cell 2
            have c3 : wr.cell? ⟨g, 3, none⟩ = some (.slice (some ⟨gf, 0, none⟩) T cf) := by rw [← HG.out, ← E3.out]; exact hR.blk.cell 3
            have har : a < R.rows.length := by rw [HT.out]; exact hla
            have r1 : wr.cell? ⟨gf, a, none⟩ = some (.slice (some ⟨R.rows.getD a 0, 0, none⟩) q q) := hR.rowAt (by rw [HT.out]; exact E3.out) a har
            by_cases hlp : p < q
            · have y1 : decide (p < q) = true := by simp; omega
              have y2 : (p : Int) < (q : Int) := by omega
              have r2 := hR.flagAt a p har hlp
              have r3 := (hR.row a har).frozen p
              have HSF := Lib.hid (hR.setF a p false har)
              have HR := Lib.hid hR
              have FR := Lib.hid fR
              clear hR fR
              obtain ⟨gr, hgr⟩ : ∃ gr, R.rows.getD a 0 = gr := ⟨_, rfl⟩
              rw [hgr] at r1 r2 r3 HSF
              clear hgr
              generalize fAt c fl a p a p = b0 at r2
              by_cases hat : a = t
              · subst hat
                have HC : Hid (c a = true) := Lib.hid (by rw [HC0.out]; simp)
                have z1 : decide ((a : Int) = (a : Int)) = true := by simp
                go_wp2_with fail
                go_roundw
                case rel => exact ⟨p + 1, by omega, by go_num, HSF.out.1.flagsTo (fun b x _ _ => fAt_next c fl a p b x HC.out), FR.out.trans HSF.out.2 (fun g _ hg => hg)⟩
                case measure => simp [intOf]; omega
              · have HC : Hid (c a = false) := Lib.hid (by rw [HC0.out]; simp [hat])
                have z1 : decide ((a : Int) = (t : Int)) = false := by simp; omega
                have z2 : decide (a = t) = false := by simp [hat]
                have z3 : ¬ (a : Int) = (t : Int) := by omega
                go_wp2_with fail
                go_roundw
                case rel => exact ⟨p + 1, by omega, by go_num, HR.out.flagsTo (fun b x _ _ => fAt_skip c fl a p b x HC.out), FR.out⟩
                case measure => simp [intOf]; omega
            · have y1 : decide (p < q) = false := by simp; omega
              have y2 : ¬ (p : Int) < (q : Int) := by omega
              obtain rfl : p = q := by omega
              have HR := Lib.hid hR
              have FR := Lib.hid fR
              clear hR fR r1
              go_wp2_with fail
              go_roundw
              case rel => exact ⟨a + 1, by omega, by go_num, HR.out.flagsTo (fun b x _ hx => fAt_up c fl a p b x hx), FR.out⟩
              case measure => simp [intOf]; omega
        · have x1 : decide (a < T) = false := by simp; omega
          have x2 : ¬ (a : Int) < (T : Int) := by omega
          obtain rfl : a = T := by omega
          have HR2 : Hid (IsRef B wr R q kept1 seen writes1 (flagsOut c fl)) := Lib.hid (HR.out.flagsTo (fun b x hb _ => fAt_end c fl a b x (by rw [← HT.out]; exact hb)))
          have FR2 := Lib.hid FR.out
          clear HR FR
          go_wp2_with fail
          clear c2 c3
          generalize wr = w5 at *
          obtain ⟨fl2, hfl2⟩ : ∃ z : Nat → Nat → Bool, z = flagsOut c fl := ⟨_, rfl⟩
          rw [← hfl2] at HR2
          have HFE := Lib.hid hfl2
          clear hfl2
          go_loopw [13] (fun i wr => ∃ p : Nat, p ≤ L ∧ i = .int .i64 p ∧ IsRef B wr R q kept1 seen writes1 fl2 ∧ Fr R.foot w wr) (fun i _ => L - (intOf i).toNat)
          case atStart => exact ⟨0, by omega, rfl, HR2.out, FR2.out⟩
          case round =>
            clear HR2 FR2
            obtain ⟨p, hp, rfl, hR, fR⟩ := hrel
            have c1 : wr.cell? ⟨g, 1, none⟩ = some (.slice (some ⟨gs, 0, none⟩) L cs) := by rw [← HG.out, ← E2.out]; exact hR.blk.cell 1
            have hL1 : L ≤ 2097152 := by have := HL.out; omega
            have HR := Lib.hid hR
            have FR := Lib.hid fR
            clear hR fR
            by_cases hlp : p < L
            · have y1 : decide (p < L) = true := by simp; omega
              have y2 : (p : Int) < (L : Int) := by omega
              go_wp2_with fail
              go_roundw
              case rel => exact ⟨p + 1, by omega, by go_num, HR.out, FR.out⟩
              case measure => simp [intOf]; omega
            · have y1 : decide (p < L) = false := by simp; omega
              have y2 : ¬ (p : Int) < (L : Int) := by omega
              obtain rfl : p = L := by omega
              go_wp2_with fail
              go_ret
              have hfin := HR.out
              rw [HFE.out, HKE.out, HWE.out, HF0.out, HC0.out] at hfin
              exact ⟨rfl, hfin, FR.out⟩
end Go.Proofs.YtbicloceaddinaaGreat


/- The document's device: Do, evict. Conditions: those that each theorem names. -/
namespace Go.Proofs.YtbicloceaddinaaGreat
open Go.ChangeShapes Go.WideShapes Go.ChangeAt Go.RowKit
set_option linter.unusedVariables false
set_option maxRecDepth 100000 in
set_option maxHeartbeats 2000000 in
theorem refDo_evict {B n L T : Nat} {w : World} {R : RefB} {kept seen writes : List Int} {fl : Nat → Nat → Bool} (h : IsRef B w R n kept seen writes fl) (n0 : 0 < n) (n1 : n ≤ 262144) (hL : n * 8 = L) (hk : kept.length = L) (hs : seen.length = L) (hT : R.rows.length = T) (T0 : 0 < T) (T1 : T ≤ 64) (hw : ∀ p, -1 ≤ writes.getD p 0 ∧ writes.getD p 0 < 1000000000000) (t : Int) (l : Nat) (hl : l < n) :
    Calls Tryz.prog 75 #[R.ptr, .int .i64 2, .int .i64 t, .int .i64 (l : Int)] w fun e w' => e = .returned (.int .i64 0) ∧ IsRef B w' R n (sel L (fun i => (fun q => decide (q = l)) (i / 8)) seen kept) seen (add1 n (fun q => decide (q = l)) writes) (flagsOut (fun _ => false) fl) ∧ Fr R.foot w w' := by
  obtain ⟨gk, ck, gs, cs, gf, cf, e1, e2, e3⟩ := h.shape hk hs (by omega) (by omega)
  rw [hT] at e3
  have hwl := h.wlen
  have c3 : w.cell? ⟨R.g, 3, none⟩ = some (.slice (some ⟨gf, 0, none⟩) T cf) := by rw [← e3]; exact h.blk.cell 3
  have c2 : w.cell? ⟨R.g, 2, none⟩ = some (.slice (some ⟨R.gw, 0, none⟩) n n) := h.blk.cell 2
  have HT := Lib.hid hT
  have E1 := Lib.hid e1
  have E2 := Lib.hid e2
  have E3 := Lib.hid e3
  have HK := Lib.hid hk
  have HS := Lib.hid hs
  have HL := Lib.hid hL
  have HWL := Lib.hid hwl
  have HWW := Lib.hid hw
  have H0 := Lib.hid h
  unfold RefB.ptr
  obtain ⟨g, hg⟩ : ∃ g, R.g = g := ⟨_, rfl⟩
  obtain ⟨gw, hgw⟩ : ∃ gw, R.gw = gw := ⟨_, rfl⟩
  have HG := Lib.hid hg
  have HGW := Lib.hid hgw
  rw [hg] at c2 c3 ⊢
  rw [hgw] at c2
  clear hT e1 e2 e3 hk hs hwl h hg hgw hw
  obtain ⟨f, hf⟩ : ∃ f : Nat → Bool, f = (fun q => decide (q = l)) := ⟨_, rfl⟩
  obtain ⟨c, hc⟩ : ∃ c : Nat → Bool, c = (fun _ => false) := ⟨_, rfl⟩
  have HF0 := Lib.hid hf
  have HC0 := Lib.hid hc
  clear hf hc
  have u4 : decide (n ≤ l) = false := by simp; omega
  have u5 : (l : Int) < (n : Int) := by omega
  go_enter Tryz.func75, Tryz.ntmps75
  go_wp2_with fail
  clear c2 c3
  go_loopw [9] (fun i wr => ∃ q : Nat, q ≤ n ∧ i = .int .i64 q ∧ IsRef B wr R n (sel L (cAt f q 0) seen kept) seen (add1 n (wAt f q) writes) fl ∧ Fr R.foot w wr) (fun i _ => n - (intOf i).toNat)
  case atStart => exact ⟨0, by omega, rfl, by rw [sel_none HK.out (fun i _ => cAt_zero _ i), add1_none HWL.out (fun i _ => wAt_zero _ i)]; exact H0.out, Fr.refl _ _⟩
  case round =>
    obtain ⟨q, hq, rfl, hR, fR⟩ := hrel
    have c2 : wr.cell? ⟨g, 2, none⟩ = some (.slice (some ⟨gw, 0, none⟩) n n) := by rw [← HG.out, ← HGW.out]; exact hR.blk.cell 2
    have c3 : wr.cell? ⟨g, 3, none⟩ = some (.slice (some ⟨gf, 0, none⟩) T cf) := by rw [← HG.out, ← E3.out]; exact hR.blk.cell 3
    have HR := Lib.hid hR
    have FR := Lib.hid fR
    clear hR fR
    by_cases hlt : q < n
    · have v1 : decide (q < n) = true := by simp; omega
      have v2 : (q : Int) < (n : Int) := by omega
      by_cases hql : q = l
      · subst hql
        have HB : Hid (f q = true) := Lib.hid (by rw [HF0.out]; simp)
        generalize wr = w2 at *
        go_wp2_with fail
        go_loopw [10] (fun i wr => ∃ j : Nat, j ≤ 8 ∧ i = .int .i64 j ∧ IsRef B wr R n (sel L (cAt f q j) seen kept) seen (add1 n (wAt f q) writes) fl ∧ Fr R.foot w wr) (fun i _ => 8 - (intOf i).toNat)
        case atStart => exact ⟨0, by omega, rfl, HR.out, FR.out⟩
        case round =>
          clear HR FR c2 c3 
          obtain ⟨j, hj, rfl, hR, fR⟩ := hrel
          by_cases hlj : j < 8
          · obtain ⟨p, hp⟩ : ∃ p, q * 8 + j = p := ⟨_, rfl⟩
            have hpL : p < L := by have := HL.out; omega
            have c0 : wr.cell? ⟨g, 0, none⟩ = some (.slice (some ⟨gk, 0, none⟩) L ck) := by rw [← HG.out, ← E1.out]; exact hR.blk.cell 0
            have c1 : wr.cell? ⟨g, 1, none⟩ = some (.slice (some ⟨gs, 0, none⟩) L cs) := by rw [← HG.out, ← E2.out]; exact hR.blk.cell 1
            have hrs := RowN.of_row hR.seen
            rw [E2.out, HS.out] at hrs
            have hrk := RowN.of_row hR.kept
            rw [E1.out, sel_len] at hrk
            have q1 : wr.cell? ⟨gs, p, none⟩ = some (.int .u64 (seen.getD p 0)) := hrs.cell (by omega)
            have q2 : wr.frozen? ⟨gk, p, none⟩ = false := hrk.frozen p
            have q3 := hrk.cell (j := p) (by omega)
            have hset := Lib.hid (hR.setK E1.out (sel_len _ _ _ _) p (seen.getD p 0))
            have hX : 8 * (q : Int) + (j : Int) = (p : Int) := by omega
            have hpL2 : (p : Int) < (L : Int) := by omega
            have HP := Lib.hid hp
            have FR := Lib.hid fR
            have hL1 : L ≤ 2097152 := by have := HL.out; omega
            clear hR fR hrs hrk hp
            generalize (sel L (cAt f q j) seen kept).getD p 0 = y at q3
            obtain ⟨x, hx⟩ : ∃ x, seen.getD p 0 = x := ⟨_, rfl⟩
            rw [hx] at q1 hset
            have HX := Lib.hid hx
            clear hx
            go_wp2_with fail
            go_region
            have hs1 := hset.out.1
            have hs2 := hset.out.2
            rw [← HX.out, sel_set L (cAt f q j) (cAt f q (j + 1)) seen kept p hpL (fun i _ => by rw [cAt_next f q j i hlj, HP.out])] at hs1
            rw [← HX.out] at hs2
            have HS1 := Lib.hid hs1
            have HS2 := Lib.hid (FR.out.trans hs2 (fun g _ hg => hg))
            clear hs1 hs2 hset q1 q2 q3 c0 c1
            rw [← HX.out]
            go_wp2_with fail
            go_roundw
            case rel => exact ⟨j + 1, by omega, by go_num, by first | exact HS1.out | exact HS1.out.ext (Ext.refl _).drew, by first | exact HS2.out | exact HS2.out.drew⟩
            case measure => simp [intOf]; omega
          · obtain rfl : j = 8 := by omega
            have c2 : wr.cell? ⟨g, 2, none⟩ = some (.slice (some ⟨gw, 0, none⟩) n n) := by rw [← HG.out, ← HGW.out]; exact hR.blk.cell 2
            have hrw := RowN.of_row hR.writes
            rw [add1_len, HGW.out] at hrw
            have q1 : wr.cell? ⟨gw, q, none⟩ = some (.int .i64 (writes.getD q 0)) := by
              have := hrw.cell (j := q) (by omega)
              rw [add1_get _ _ _ _ hlt, show wAt f q q = false by unfold wAt; simp] at this
              exact this
            have q2 : wr.frozen? ⟨gw, q, none⟩ = false := hrw.frozen q
            have hset := Lib.hid (hR.setW q (writes.getD q 0 + 1))
            have hxw := HWW.out q
            have FR := Lib.hid fR
            clear hR fR hrw
            obtain ⟨x, hx⟩ : ∃ x, writes.getD q 0 = x := ⟨_, rfl⟩
            rw [hx] at q1 hset hxw
            have HX := Lib.hid hx
            clear hx
            have hxi : IntKind.i64.wrap (x + 1) = x + 1 := IntWalk.i64_in _ (by omega)
            go_wp2_with fail
            go_region
            have hs1 := hset.out.1
            have hs2 := hset.out.2
            rw [HGW.out] at hs1 hs2
            rw [← HX.out, add1_set n (wAt f q) (wAt f (q + 1)) writes q hlt (by unfold wAt; simp) (fun i _ => wAt_next f q i HB.out), sel_congr (fun i _ => cAt_up f q i HB.out)] at hs1
            rw [← HX.out] at hs2
            have HS1 := Lib.hid hs1
            have HS2 := Lib.hid (FR.out.trans hs2 (fun g _ hg => hg))
            clear hs1 hs2 hset q1 q2 c2
            rw [← HX.out]
            go_wp2_with fail
            go_roundw
            case rel => exact ⟨q + 1, by omega, by go_num, by first | exact HS1.out | exact HS1.out.ext (Ext.refl _).drew, by first | exact HS2.out | exact HS2.out.drew⟩
            case measure => simp [intOf]; omega
      · have HB : Hid (f q = false) := Lib.hid (by rw [HF0.out]; simp [hql])
        have z1 : ¬ (q : Int) = (l : Int) := by omega
        have z2 : decide (q = l) = false := by simp [hql]
        go_wp2_with fail
        go_roundw
        case rel => exact ⟨q + 1, by omega, by go_num, by rw [sel_congr (fun i _ => (cAt_skip f q i HB.out).symm), add1_congr (fun p _ => (wAt_skip f q p HB.out).symm)]; exact HR.out, FR.out⟩
        case measure => simp [intOf]; omega
    · have v1 : decide (q < n) = false := by simp; omega
      have v2 : ¬ (q : Int) < (n : Int) := by omega
      obtain rfl : q = n := by omega
      have hR := HR.out
      have fR := FR.out
      rw [sel_congr (fun i hi => cAt_end f q i (by have := HL.out; omega)), add1_congr (fun p hp => wAt_end f q p hp)] at hR
      have HR1 := Lib.hid hR
      have FR1 := Lib.hid fR
      clear hR fR HR FR
      obtain ⟨kept1, hk1⟩ : ∃ z, z = (sel L (fun i => f (i / 8)) seen kept) := ⟨_, rfl⟩
      obtain ⟨writes1, hw1⟩ : ∃ z, z = (add1 q f writes) := ⟨_, rfl⟩
      have HR1' : Hid (IsRef B wr R q kept1 seen writes1 fl) := Lib.hid (by rw [hk1, hw1]; exact HR1.out)
      clear HR1
      have HR1 := Lib.hid HR1'.out
      have HK1 : Hid (kept1.length = L) := Lib.hid (by rw [hk1]; exact sel_len _ _ _ _)
      have HKE := Lib.hid hk1
      have HWE := Lib.hid hw1
      clear hk1 hw1 HR1'
      go_wp2_with fail
      clear c2 c3
      generalize wr = w3 at *
      go_loopw [11] (fun i wr => ∃ a : Nat, a ≤ T ∧ i = .int .i64 a ∧ IsRef B wr R q kept1 seen writes1 (fAt c fl a 0) ∧ Fr R.foot w wr) (fun i _ => T - (intOf i).toNat)
      case atStart => exact ⟨0, by omega, rfl, HR1.out.flagsTo (fun t p _ _ => (fAt_zero _ _ t p).symm), FR1.out⟩
      case round =>
        clear HR1 FR1
        obtain ⟨a, ha, rfl, hR, fR⟩ := hrel
        have c2 : wr.cell? ⟨g, 2, none⟩ = some (.slice (some ⟨gw, 0, none⟩) q q) := by rw [← HG.out, ← HGW.out]; exact hR.blk.cell 2
        have c3 : wr.cell? ⟨g, 3, none⟩ = some (.slice (some ⟨gf, 0, none⟩) T cf) := by rw [← HG.out, ← E3.out]; exact hR.blk.cell 3
        have HR := Lib.hid hR
        have FR := Lib.hid fR
        clear hR fR
        by_cases hla : a < T
        · have x1 : decide (a < T) = true := by simp; omega
          have x2 : (a : Int) < (T : Int) := by omega
          go_wp2_with fail
          clear c2 c3
          generalize wr = w4 at *
          go_loopw [12] (fun i wr => ∃ p : Nat, p ≤ q ∧ i = .int .i64 p ∧ IsRef B wr R q kept1 seen writes1 (fAt c fl a p) ∧ Fr R.foot w wr) (fun i _ => q - (intOf i).toNat)
          case atStart => exact ⟨0, by omega, rfl, HR.out, FR.out⟩
          case round =>
            clear HR FR
            obtain ⟨p, hp, rfl, hR, fR⟩ := hrel
            have c2 : wr.cell? ⟨g, 2, none⟩ = some (.slice (some ⟨gw, 0, none⟩) q q) := by rw [← HG.out, ← HGW.out]; exact hR.blk.cell 2
            have c3 : wr.cell? ⟨g, 3, none⟩ = some (.slice (some ⟨gf, 0, none⟩) T cf) := by rw [← HG.out, ← E3.out]; exact hR.blk.cell 3
            have har : a < R.rows.length := by rw [HT.out]; exact hla
            have r1 : wr.cell? ⟨gf, a, none⟩ = some (.slice (some ⟨R.rows.getD a 0, 0, none⟩) q q) := hR.rowAt (by rw [HT.out]; exact E3.out) a har
            by_cases hlp : p < q
            · have y1 : decide (p < q) = true := by simp; omega
              have y2 : (p : Int) < (q : Int) := by omega
              have r2 := hR.flagAt a p har hlp
              have r3 := (hR.row a har).frozen p
              have HSF := Lib.hid (hR.setF a p false har)
              have HR := Lib.hid hR
              have FR := Lib.hid fR
              clear hR fR
              obtain ⟨gr, hgr⟩ : ∃ gr, R.rows.getD a 0 = gr := ⟨_, rfl⟩
              rw [hgr] at r1 r2 r3 HSF
              clear hgr
              generalize fAt c fl a p a p = b0 at r2
              have HC : Hid (c a = false) := Lib.hid (by rw [HC0.out])
              go_wp2_with fail
              go_roundw
              case rel => exact ⟨p + 1, by omega, by go_num, HR.out.flagsTo (fun b x _ _ => fAt_skip c fl a p b x HC.out), FR.out⟩
              case measure => simp [intOf]; omega
            · have y1 : decide (p < q) = false := by simp; omega
              have y2 : ¬ (p : Int) < (q : Int) := by omega
              obtain rfl : p = q := by omega
              have HR := Lib.hid hR
              have FR := Lib.hid fR
              clear hR fR r1
              go_wp2_with fail
              go_roundw
              case rel => exact ⟨a + 1, by omega, by go_num, HR.out.flagsTo (fun b x _ hx => fAt_up c fl a p b x hx), FR.out⟩
              case measure => simp [intOf]; omega
        · have x1 : decide (a < T) = false := by simp; omega
          have x2 : ¬ (a : Int) < (T : Int) := by omega
          obtain rfl : a = T := by omega
          have HR2 : Hid (IsRef B wr R q kept1 seen writes1 (flagsOut c fl)) := Lib.hid (HR.out.flagsTo (fun b x hb _ => fAt_end c fl a b x (by rw [← HT.out]; exact hb)))
          have FR2 := Lib.hid FR.out
          clear HR FR
          go_wp2_with fail
          clear c2 c3
          generalize wr = w5 at *
          obtain ⟨fl2, hfl2⟩ : ∃ z : Nat → Nat → Bool, z = flagsOut c fl := ⟨_, rfl⟩
          rw [← hfl2] at HR2
          have HFE := Lib.hid hfl2
          clear hfl2
          go_loopw [13] (fun i wr => ∃ p : Nat, p ≤ L ∧ i = .int .i64 p ∧ IsRef B wr R q kept1 seen writes1 fl2 ∧ Fr R.foot w wr) (fun i _ => L - (intOf i).toNat)
          case atStart => exact ⟨0, by omega, rfl, HR2.out, FR2.out⟩
          case round =>
            clear HR2 FR2
            obtain ⟨p, hp, rfl, hR, fR⟩ := hrel
            have c1 : wr.cell? ⟨g, 1, none⟩ = some (.slice (some ⟨gs, 0, none⟩) L cs) := by rw [← HG.out, ← E2.out]; exact hR.blk.cell 1
            have hL1 : L ≤ 2097152 := by have := HL.out; omega
            have HR := Lib.hid hR
            have FR := Lib.hid fR
            clear hR fR
            by_cases hlp : p < L
            · have y1 : decide (p < L) = true := by simp; omega
              have y2 : (p : Int) < (L : Int) := by omega
              go_wp2_with fail
              go_roundw
              case rel => exact ⟨p + 1, by omega, by go_num, HR.out, FR.out⟩
              case measure => simp [intOf]; omega
            · have y1 : decide (p < L) = false := by simp; omega
              have y2 : ¬ (p : Int) < (L : Int) := by omega
              obtain rfl : p = L := by omega
              go_wp2_with fail
              go_ret
              have hfin := HR.out
              rw [HFE.out, HKE.out, HWE.out, HF0.out, HC0.out] at hfin
              exact ⟨rfl, hfin, FR.out⟩
end Go.Proofs.YtbicloceaddinaaGreat


/- The document's device: Do, crash. Conditions: those that each theorem names. -/
namespace Go.Proofs.YtbicloceaddinaaGreat
open Go.ChangeShapes Go.WideShapes Go.ChangeAt Go.RowKit
set_option linter.unusedVariables false
set_option maxRecDepth 100000 in
set_option maxHeartbeats 2000000 in
theorem refDo_crash {B n L T : Nat} {w : World} {R : RefB} {kept seen writes : List Int} {fl : Nat → Nat → Bool} (h : IsRef B w R n kept seen writes fl) (n0 : 0 < n) (n1 : n ≤ 262144) (hL : n * 8 = L) (hk : kept.length = L) (hs : seen.length = L) (hT : R.rows.length = T) (T0 : 0 < T) (T1 : T ≤ 64) (hw : ∀ p, -1 ≤ writes.getD p 0 ∧ writes.getD p 0 < 1000000000000) (t l : Int) :
    Calls Tryz.prog 75 #[R.ptr, .int .i64 3, .int .i64 t, .int .i64 l] w fun e w' => e = .returned (.int .i64 0) ∧ IsRef B w' R n (sel L (fun i => (fun _ => false) (i / 8)) seen kept) (sel L (fun i => (fun _ => false) (i / 8)) seen kept) (add1 n (fun _ => false) writes) (flagsOut (fun _ => true) fl) ∧ Fr R.foot w w' := by
  obtain ⟨gk, ck, gs, cs, gf, cf, e1, e2, e3⟩ := h.shape hk hs (by omega) (by omega)
  rw [hT] at e3
  have hwl := h.wlen
  have c3 : w.cell? ⟨R.g, 3, none⟩ = some (.slice (some ⟨gf, 0, none⟩) T cf) := by rw [← e3]; exact h.blk.cell 3
  have c2 : w.cell? ⟨R.g, 2, none⟩ = some (.slice (some ⟨R.gw, 0, none⟩) n n) := h.blk.cell 2
  have HT := Lib.hid hT
  have E1 := Lib.hid e1
  have E2 := Lib.hid e2
  have E3 := Lib.hid e3
  have HK := Lib.hid hk
  have HS := Lib.hid hs
  have HL := Lib.hid hL
  have HWL := Lib.hid hwl
  have HWW := Lib.hid hw
  have H0 := Lib.hid h
  unfold RefB.ptr
  obtain ⟨g, hg⟩ : ∃ g, R.g = g := ⟨_, rfl⟩
  obtain ⟨gw, hgw⟩ : ∃ gw, R.gw = gw := ⟨_, rfl⟩
  have HG := Lib.hid hg
  have HGW := Lib.hid hgw
  rw [hg] at c2 c3 ⊢
  rw [hgw] at c2
  clear hT e1 e2 e3 hk hs hwl h hg hgw hw
  obtain ⟨f, hf⟩ : ∃ f : Nat → Bool, f = (fun _ => false) := ⟨_, rfl⟩
  obtain ⟨c, hc⟩ : ∃ c : Nat → Bool, c = (fun _ => true) := ⟨_, rfl⟩
  have HF0 := Lib.hid hf
  have HC0 := Lib.hid hc
  clear hf hc
  go_enter Tryz.func75, Tryz.ntmps75
  go_wp2_with fail
  clear c2 c3
  go_loopw [9] (fun i wr => ∃ q : Nat, q ≤ n ∧ i = .int .i64 q ∧ IsRef B wr R n (sel L (cAt f q 0) seen kept) seen (add1 n (wAt f q) writes) fl ∧ Fr R.foot w wr) (fun i _ => n - (intOf i).toNat)
  case atStart => exact ⟨0, by omega, rfl, by rw [sel_none HK.out (fun i _ => cAt_zero _ i), add1_none HWL.out (fun i _ => wAt_zero _ i)]; exact H0.out, Fr.refl _ _⟩
  case round =>
    obtain ⟨q, hq, rfl, hR, fR⟩ := hrel
    have c2 : wr.cell? ⟨g, 2, none⟩ = some (.slice (some ⟨gw, 0, none⟩) n n) := by rw [← HG.out, ← HGW.out]; exact hR.blk.cell 2
    have c3 : wr.cell? ⟨g, 3, none⟩ = some (.slice (some ⟨gf, 0, none⟩) T cf) := by rw [← HG.out, ← E3.out]; exact hR.blk.cell 3
    have HR := Lib.hid hR
    have FR := Lib.hid fR
    clear hR fR
    by_cases hlt : q < n
    · have v1 : decide (q < n) = true := by simp; omega
      have v2 : (q : Int) < (n : Int) := by omega
      have HB : Hid (f q = false) := Lib.hid (by rw [HF0.out])
      go_wp2_with fail
      go_roundw
      case rel => exact ⟨q + 1, by omega, by go_num, by rw [sel_congr (fun i _ => (cAt_skip f q i HB.out).symm), add1_congr (fun p _ => (wAt_skip f q p HB.out).symm)]; exact HR.out, FR.out⟩
      case measure => simp [intOf]; omega
    · have v1 : decide (q < n) = false := by simp; omega
      have v2 : ¬ (q : Int) < (n : Int) := by omega
      obtain rfl : q = n := by omega
      have hR := HR.out
      have fR := FR.out
      rw [sel_congr (fun i hi => cAt_end f q i (by have := HL.out; omega)), add1_congr (fun p hp => wAt_end f q p hp)] at hR
      have HR1 := Lib.hid hR
      have FR1 := Lib.hid fR
      clear hR fR HR FR
      obtain ⟨kept1, hk1⟩ : ∃ z, z = (sel L (fun i => f (i / 8)) seen kept) := ⟨_, rfl⟩
      obtain ⟨writes1, hw1⟩ : ∃ z, z = (add1 q f writes) := ⟨_, rfl⟩
      have HR1' : Hid (IsRef B wr R q kept1 seen writes1 fl) := Lib.hid (by rw [hk1, hw1]; exact HR1.out)
      clear HR1
      have HR1 := Lib.hid HR1'.out
      have HK1 : Hid (kept1.length = L) := Lib.hid (by rw [hk1]; exact sel_len _ _ _ _)
      have HKE := Lib.hid hk1
      have HWE := Lib.hid hw1
      clear hk1 hw1 HR1'
      go_wp2_with fail
      clear c2 c3
      generalize wr = w3 at *
      go_loopw [11] (fun i wr => ∃ a : Nat, a ≤ T ∧ i = .int .i64 a ∧ IsRef B wr R q kept1 seen writes1 (fAt c fl a 0) ∧ Fr R.foot w wr) (fun i _ => T - (intOf i).toNat)
      case atStart => exact ⟨0, by omega, rfl, HR1.out.flagsTo (fun t p _ _ => (fAt_zero _ _ t p).symm), FR1.out⟩
      case round =>
        clear HR1 FR1
        obtain ⟨a, ha, rfl, hR, fR⟩ := hrel
        have c2 : wr.cell? ⟨g, 2, none⟩ = some (.slice (some ⟨gw, 0, none⟩) q q) := by rw [← HG.out, ← HGW.out]; exact hR.blk.cell 2
        have c3 : wr.cell? ⟨g, 3, none⟩ = some (.slice (some ⟨gf, 0, none⟩) T cf) := by rw [← HG.out, ← E3.out]; exact hR.blk.cell 3
        have HR := Lib.hid hR
        have FR := Lib.hid fR
        clear hR fR
        by_cases hla : a < T
        · have x1 : decide (a < T) = true := by simp; omega
          have x2 : (a : Int) < (T : Int) := by omega
          go_wp2_with fail
          clear c2 c3
          generalize wr = w4 at *
          go_loopw [12] (fun i wr => ∃ p : Nat, p ≤ q ∧ i = .int .i64 p ∧ IsRef B wr R q kept1 seen writes1 (fAt c fl a p) ∧ Fr R.foot w wr) (fun i _ => q - (intOf i).toNat)
          case atStart => exact ⟨0, by omega, rfl, HR.out, FR.out⟩
          case round =>
            clear HR FR
            obtain ⟨p, hp, rfl, hR, fR⟩ := hrel
            have c2 : wr.cell? ⟨g, 2, none⟩ = some (.slice (some ⟨gw, 0, none⟩) q q) := by rw [← HG.out, ← HGW.out]; exact hR.blk.cell 2
            have c3 : wr.cell? ⟨g, 3, none⟩ = some (.slice (some ⟨gf, 0, none⟩) T cf) := by rw [← HG.out, ← E3.out]; exact hR.blk.cell 3
            have har : a < R.rows.length := by rw [HT.out]; exact hla
            have r1 : wr.cell? ⟨gf, a, none⟩ = some (.slice (some ⟨R.rows.getD a 0, 0, none⟩) q q) := hR.rowAt (by rw [HT.out]; exact E3.out) a har
            by_cases hlp : p < q
            · have y1 : decide (p < q) = true := by simp; omega
              have y2 : (p : Int) < (q : Int) := by omega
              have r2 := hR.flagAt a p har hlp
              have r3 := (hR.row a har).frozen p
              have HSF := Lib.hid (hR.setF a p false har)
              have HR := Lib.hid hR
              have FR := Lib.hid fR
              clear hR fR
              obtain ⟨gr, hgr⟩ : ∃ gr, R.rows.getD a 0 = gr := ⟨_, rfl⟩
              rw [hgr] at r1 r2 r3 HSF
              clear hgr
              generalize fAt c fl a p a p = b0 at r2
              have HC : Hid (c a = true) := Lib.hid (by rw [HC0.out])
              go_wp2_with fail
              go_roundw
              case rel => exact ⟨p + 1, by omega, by go_num, HSF.out.1.flagsTo (fun b x _ _ => fAt_next c fl a p b x HC.out), FR.out.trans HSF.out.2 (fun g _ hg => hg)⟩
              case measure => simp [intOf]; omega
            · have y1 : decide (p < q) = false := by simp; omega
              have y2 : ¬ (p : Int) < (q : Int) := by omega
              obtain rfl : p = q := by omega
              have HR := Lib.hid hR
              have FR := Lib.hid fR
              clear hR fR r1
              go_wp2_with fail
              go_roundw
              case rel => exact ⟨a + 1, by omega, by go_num, HR.out.flagsTo (fun b x _ hx => fAt_up c fl a p b x hx), FR.out⟩
              case measure => simp [intOf]; omega
        · have x1 : decide (a < T) = false := by simp; omega
          have x2 : ¬ (a : Int) < (T : Int) := by omega
          obtain rfl : a = T := by omega
          have HR2 : Hid (IsRef B wr R q kept1 seen writes1 (flagsOut c fl)) := Lib.hid (HR.out.flagsTo (fun b x hb _ => fAt_end c fl a b x (by rw [← HT.out]; exact hb)))
          have FR2 := Lib.hid FR.out
          clear HR FR
          go_wp2_with fail
          clear c2 c3
          generalize wr = w5 at *
          obtain ⟨fl2, hfl2⟩ : ∃ z : Nat → Nat → Bool, z = flagsOut c fl := ⟨_, rfl⟩
          rw [← hfl2] at HR2
          have HFE := Lib.hid hfl2
          clear hfl2
          go_loopw [13] (fun i wr => ∃ p : Nat, p ≤ L ∧ i = .int .i64 p ∧ IsRef B wr R q kept1 (sel L (fun i => decide (i < p)) kept1 seen) writes1 fl2 ∧ Fr R.foot w wr) (fun i _ => L - (intOf i).toNat)
          case atStart => exact ⟨0, by omega, rfl, by rw [sel_none HS.out (fun i _ => by simp)]; exact HR2.out, FR2.out⟩
          case round =>
            clear HR2 FR2
            obtain ⟨p, hp, rfl, hR, fR⟩ := hrel
            have c0 : wr.cell? ⟨g, 0, none⟩ = some (.slice (some ⟨gk, 0, none⟩) L ck) := by rw [← HG.out, ← E1.out]; exact hR.blk.cell 0
            have c1 : wr.cell? ⟨g, 1, none⟩ = some (.slice (some ⟨gs, 0, none⟩) L cs) := by rw [← HG.out, ← E2.out]; exact hR.blk.cell 1
            have hL1 : L ≤ 2097152 := by have := HL.out; omega
            by_cases hlp : p < L
            · have y1 : decide (p < L) = true := by simp; omega
              have y2 : (p : Int) < (L : Int) := by omega
              have hrs := RowN.of_row hR.seen
              rw [E2.out, sel_len] at hrs
              have hrk := RowN.of_row hR.kept
              rw [E1.out, HK1.out] at hrk
              have q1 : wr.cell? ⟨gk, p, none⟩ = some (.int .u64 (kept1.getD p 0)) := hrk.cell (by omega)
              have q2 : wr.frozen? ⟨gs, p, none⟩ = false := hrs.frozen p
              have q3 := hrs.cell (j := p) (by omega)
              have hset := Lib.hid (hR.setS E2.out (sel_len _ _ _ _) p (kept1.getD p 0))
              have FR := Lib.hid fR
              clear hR fR hrs hrk
              generalize (sel L (fun i => decide (i < p)) kept1 seen).getD p 0 = y at q3
              obtain ⟨x, hx⟩ : ∃ x, kept1.getD p 0 = x := ⟨_, rfl⟩
              rw [hx] at q1 hset
              have HX := Lib.hid hx
              clear hx
              go_wp2_with fail
              go_region
              have hs1 := hset.out.1
              have hs2 := hset.out.2
              rw [← HX.out, sel_set L (fun i => decide (i < p)) (fun i => decide (i < p + 1)) kept1 seen p hlp (fun i _ => by rw [Bool.eq_iff_iff]; simp only [Bool.or_eq_true, decide_eq_true_eq]; omega)] at hs1
              rw [← HX.out] at hs2
              have HS1 := Lib.hid hs1
              have HS2 := Lib.hid (FR.out.trans hs2 (fun g _ hg => hg))
              clear hs1 hs2 hset q1 q2 q3 c0 c1
              rw [← HX.out]
              go_wp2_with fail
              go_roundw
              case rel => exact ⟨p + 1, by omega, by go_num, by first | exact HS1.out | exact HS1.out.ext (Ext.refl _).drew, by first | exact HS2.out | exact HS2.out.drew⟩
              case measure => simp [intOf]; omega
            · have y1 : decide (p < L) = false := by simp; omega
              have y2 : ¬ (p : Int) < (L : Int) := by omega
              obtain rfl : p = L := by omega
              rw [sel_all HK1.out (fun i hi => by simpa using hi)] at hR
              have HR := Lib.hid hR
              have FR := Lib.hid fR
              clear hR fR
              go_wp2_with fail
              go_ret
              have hfin := HR.out
              rw [HFE.out, HKE.out, HWE.out, HF0.out, HC0.out] at hfin
              exact ⟨rfl, hfin, FR.out⟩
end Go.Proofs.YtbicloceaddinaaGreat


/- The document's device: its acts over the state of the program's. Conditions: those that each theorem names. -/
namespace Go.Proofs.YtbicloceaddinaaGreat
open Go.ChangeShapes Go.WideShapes Go.ChangeAt Go.RowKit
set_option linter.unusedVariables false
theorem setAdd_has (l : List Int) (x y : Int) : y ∈ setAdd l x ↔ y = x ∨ y ∈ l := by
  unfold setAdd
  by_cases h : l.contains x = true
  · rw [if_pos h]
    have hx : x ∈ l := by simpa using h
    exact ⟨Or.inr, fun h => h.elim (fun e => e ▸ hx) id⟩
  · rw [if_neg h]
    unfold insAt
    constructor
    · intro hy
      simp only [List.mem_append, List.mem_cons] at hy
      rcases hy with h1 | h1 | h1
      · exact Or.inr (List.mem_of_mem_take h1)
      · exact Or.inl h1
      · exact Or.inr (List.mem_of_mem_drop h1)
    · intro hy
      simp only [List.mem_append, List.mem_cons]
      rcases hy with h1 | h1
      · exact Or.inr (Or.inl h1)
      · rw [← List.take_append_drop (l.countP (· < x)) l] at h1
        rcases List.mem_append.1 h1 with h2 | h2
        · exact Or.inl h2
        · exact Or.inr (Or.inr h2)
theorem set_fl {l : List (List Int)} {t a : Nat} {x : List Int} (ht : t < l.length) : (l.set t x).getD a [] = if a = t then x else l.getD a [] := by
  rw [List.getD_eq_getElem?_getD, List.getD_eq_getElem?_getD, List.getElem?_set]
  by_cases h : t = a
  · subst h; simp [ht]
  · rw [if_neg h, if_neg (fun e => h e.symm)]
section
variable {B i : Nat} {w : World} {R : RefB} {s : DSt}
/-- What the acts ask for. -/
structure Sound (s : DSt) : Prop where
  n0 : 0 < s.n
  n1 : s.n ≤ 262144
  T0 : 0 < s.T
  T1 : s.T ≤ 64
  lf : s.fl.length = s.T
theorem RefAt.big (h : RefAt B w R s) : Big s := ⟨h.lk, h.ls⟩
theorem RefAt.flushR (h : RefAt B w R s) (ok : Sound s) (t l : Int) :
    Calls Tryz.prog 75 #[R.ptr, .int .i64 0, .int .i64 t, .int .i64 l] w fun e w' => e = .returned (.int .i64 (flushE s t l)) ∧ RefAt B w' R (s.flush t l) ∧ Fr R.foot w w' := by
  by_cases ht : 0 ≤ t ∧ t < (s.T : Int)
  · by_cases hl : 0 ≤ l ∧ l < (s.n : Int)
    · obtain ⟨tn, rfl⟩ := Int.eq_ofNat_of_zero_le ht.1
      obtain ⟨ln, rfl⟩ := Int.eq_ofNat_of_zero_le hl.1
      have e1 : s.flush (tn : Int) (ln : Int) = { s with fl := s.fl.set tn (setAdd (s.fl.getD tn []) (ln : Int)) } := by
        unfold DSt.flush; rw [if_pos ⟨ht.1, ht.2, hl.1, hl.2⟩]; rfl
      have e2 : flushE s (tn : Int) (ln : Int) = 0 := by unfold flushE; rw [if_pos ht, if_pos hl]
      rw [e1, e2]
      refine (refDo_flush h ok.n0 ok.n1 ok.T0 ok.T1 tn ln (by omega) (by omega)).mono ?_
      rintro e w' ⟨he, h1, f⟩
      refine ⟨he, ⟨h1.flagsTo (fun a q ha hq => ?_), h.lr, h.lk, h.ls⟩, f⟩
      unfold DSt.flag
      simp only
      rw [set_fl (by rw [ok.lf]; omega)]
      by_cases c : a = tn
      · subst c
        rw [if_pos rfl, Bool.eq_iff_iff, List.contains_iff_mem, setAdd_has]
        by_cases d : q = ln
        · subst d; simp
        · rw [if_neg (fun x => d x.2), List.contains_iff_mem]
          exact ⟨Or.inr, fun x => x.elim (fun y => absurd (by omega) d) id⟩
      · rw [if_neg c, if_neg (fun x => c x.1)]
    · have e1 : s.flush t l = s := by unfold DSt.flush; rw [if_neg (fun c => hl ⟨c.2.2.1, c.2.2.2⟩)]
      have e2 : flushE s t l = 5 := by unfold flushE; rw [if_pos ht, if_neg hl]
      rw [e1, e2]
      refine (refDo_line h ok.n0 ok.n1 ok.T0 ok.T1 0 t l (Or.inl ⟨rfl, ht.1, ht.2⟩) hl).mono ?_
      rintro e w' ⟨he, rfl⟩
      exact ⟨he, h, Fr.refl _ _⟩
  · have e1 : s.flush t l = s := by unfold DSt.flush; rw [if_neg (fun c => ht ⟨c.1, c.2.1⟩)]
    have e2 : flushE s t l = 1 := by unfold flushE; rw [if_neg ht]
    rw [e1, e2]
    refine (refDo_thread h ok.n0 ok.T0 ok.T1 0 t l (Or.inl rfl) ht).mono ?_
    rintro e w' ⟨he, rfl⟩
    exact ⟨he, h, Fr.refl _ _⟩
theorem RefAt.fenceR (h : RefAt B w R s) (ok : Sound s) (hi : i ≤ 1000) (fine : Fine i s) (t l : Int) :
    Calls Tryz.prog 75 #[R.ptr, .int .i64 1, .int .i64 t, .int .i64 l] w fun e w' => e = .returned (.int .i64 (fenceE s t)) ∧ RefAt B w' R (s.fence t) ∧ Fr R.foot w w' := by
  by_cases ht : 0 ≤ t ∧ t < (s.T : Int)
  · obtain ⟨tn, rfl⟩ := Int.eq_ofNat_of_zero_le ht.1
    have e1 : s.fence (tn : Int) = { s.backs (s.fl.getD tn []) with fl := s.fl.set tn [] } := by unfold DSt.fence; rw [if_pos ht]; rfl
    have e2 : fenceE s (tn : Int) = 0 := by unfold fenceE; rw [if_pos ht]
    rw [e1, e2]
    obtain ⟨b1, b2, b3, b4⟩ := backs_sel (s.fl.getD tn []) s h.big h.is.wlen (fine.rng tn) ((fine.srt tn).imp fun hab => by omega)
    have b5 : (s.backs (s.fl.getD tn [])).T = s.T := backs_T _ _
    refine (refDo_fence (L := s.n * 8) (T := s.T) h.is ok.n0 ok.n1 rfl h.lk h.ls h.lr ok.T0 ok.T1 (fun p => by have := fine.few p; omega) tn l (by rw [h.lr]; omega)).mono ?_
    rintro e w' ⟨he, h1, f⟩
    refine ⟨he, ⟨?_, ?_, ?_, ?_⟩, f⟩
    · simp only
      rw [b4, b1, b2, b3]
      refine h1.flagsTo (fun a q ha hq => ?_)
      unfold flagsOut DSt.flag
      simp only
      rw [set_fl (by rw [ok.lf]; omega)]
      by_cases c : a = tn
      · subst c; simp
      · simp [c]
    · simp only; rw [b5]; exact h.lr
    · simp only; rw [b1, b4, sel_len]
    · simp only; rw [b3, b4]; exact h.ls
  · have e1 : s.fence t = s := by unfold DSt.fence; rw [if_neg ht]
    have e2 : fenceE s t = 1 := by unfold fenceE; rw [if_neg ht]
    rw [e1, e2]
    refine (refDo_thread h ok.n0 ok.T0 ok.T1 1 t l (Or.inr rfl) ht).mono ?_
    rintro e w' ⟨he, rfl⟩
    exact ⟨he, h, Fr.refl _ _⟩
theorem RefAt.evictR (h : RefAt B w R s) (ok : Sound s) (hi : i ≤ 1000) (fine : Fine i s) (t l : Int) :
    Calls Tryz.prog 75 #[R.ptr, .int .i64 2, .int .i64 t, .int .i64 l] w fun e w' => e = .returned (.int .i64 (evictE s l)) ∧ RefAt B w' R (s.evict l) ∧ Fr R.foot w w' := by
  by_cases hl : 0 ≤ l ∧ l < (s.n : Int)
  · obtain ⟨ln, rfl⟩ := Int.eq_ofNat_of_zero_le hl.1
    have e1 : s.evict (ln : Int) = s.back ln := by unfold DSt.evict; rw [if_pos hl]; rfl
    have e2 : evictE s (ln : Int) = 0 := by unfold evictE; rw [if_pos hl]
    rw [e1, e2]
    obtain ⟨b1, b2⟩ := back_sel h.big h.is.wlen ln (by omega)
    refine (refDo_evict (L := s.n * 8) (T := s.T) h.is ok.n0 ok.n1 rfl h.lk h.ls h.lr ok.T0 ok.T1 (fun p => by have := fine.few p; omega) t ln (by omega)).mono ?_
    rintro e w' ⟨he, h1, f⟩
    refine ⟨he, ⟨?_, h.lr, ?_, h.ls⟩, f⟩
    · rw [b1, b2]
      refine h1.flagsTo (fun a q ha hq => ?_)
      unfold flagsOut
      rfl
    · rw [b1, sel_len]; rfl
  · have e1 : s.evict l = s := by unfold DSt.evict; rw [if_neg hl]
    have e2 : evictE s l = 5 := by unfold evictE; rw [if_neg hl]
    rw [e1, e2]
    refine (refDo_line h ok.n0 ok.n1 ok.T0 ok.T1 2 t l (Or.inr rfl) hl).mono ?_
    rintro e w' ⟨he, rfl⟩
    exact ⟨he, h, Fr.refl _ _⟩
theorem RefAt.crashR (h : RefAt B w R s) (ok : Sound s) (hi : i ≤ 1000) (fine : Fine i s) (t l : Int) :
    Calls Tryz.prog 75 #[R.ptr, .int .i64 3, .int .i64 t, .int .i64 l] w fun e w' => e = .returned (.int .i64 0) ∧ RefAt B w' R s.crashed ∧ Fr R.foot w w' := by
  refine (refDo_crash (L := s.n * 8) (T := s.T) h.is ok.n0 ok.n1 rfl h.lk h.ls h.lr ok.T0 ok.T1 (fun p => by have := fine.few p; omega) t l).mono ?_
  rintro e w' ⟨he, h1, f⟩
  rw [sel_none h.lk (fun _ _ => rfl), add1_none h.is.wlen (fun _ _ => rfl)] at h1
  refine ⟨he, ⟨h1.flagsTo (fun a q ha hq => ?_), h.lr, h.lk, h.lk⟩, f⟩
  have e0 : (List.replicate s.T ([] : List Int)).getD a [] = [] := by
    rw [List.getD_eq_getElem?_getD, List.getElem?_replicate]
    split <;> rfl
  show false = ((List.replicate s.T ([] : List Int)).getD a []).contains (q : Int)
  rw [e0]
  rfl
end
end Go.Proofs.YtbicloceaddinaaGreat


/- limekilnlaw04.same: a device and the document's that hold one state are the same. Conditions: those that each theorem names. -/
namespace Go.Proofs.YtbicloceaddinaaGreat
open Go.ChangeShapes Go.WideShapes Go.ChangeAt Go.RowKit
set_option linter.unusedVariables false
/-- How many are below. -/
def below (l : List Int) (p : Int) : Nat := l.countP (fun y => decide (y < p))
section
variable {Q : Nat → Prop} {wb w0 w : World} {v : Value} {s : DSt}
theorem AtQ.sound (h : AtQ Q wb w0 w v s) : Sound s := by
  obtain ⟨D, rfl, h, ext, hQ⟩ := h
  exact ⟨h.n0, h.n1, h.T0, h.T1, h.lfl⟩
end
section
variable {B i : Nat} {w w' : World} {R : RefB} {s : DSt}
/-- Nothing of it has turned. -/
theorem IsRef.heldQ {n : Nat} {kept seen writes : List Int} {fl : Nat → Nat → Bool} (h : IsRef B w R n kept seen writes fl) (hk : ∀ b, R.foot b → w'.heap[b]? = w.heap[b]?) : IsRef B w' R n kept seen writes fl where
  blk := (hk _ (Or.inl rfl)).trans h.blk
  kept := (RowN.kept (RowN.of_row h.kept) (fun b hb => hk b (Or.inr (Or.inl hb)))).row
  seen := (RowN.kept (RowN.of_row h.seen) (fun b hb => hk b (Or.inr (Or.inr (Or.inl hb))))).row
  writes := (RowN.kept (RowN.of_row h.writes) (fun b hb => hk b (Or.inr (Or.inr (Or.inr (Or.inl (by simpa [Value.ownBlock] using hb.symm))))))).row
  flr := h.flr.kept (fun b hb => hk b (Or.inr (Or.inr (Or.inr (Or.inr (Or.inl hb))))))
  row := fun t ht => (hk _ (Or.inr (Or.inr (Or.inr (Or.inr (Or.inr (rows_mem ht))))))).trans (h.row t ht)
  nd := h.nd
  ks := h.ks
  bg := h.bg
  br := h.br
theorem RefAt.heldQ (h : RefAt B w R s) (hk : ∀ b, R.foot b → w'.heap[b]? = w.heap[b]?) : RefAt B w' R s := ⟨h.is.heldQ hk, h.lr, h.lk, h.ls⟩
end
end Go.Proofs.YtbicloceaddinaaGreat

