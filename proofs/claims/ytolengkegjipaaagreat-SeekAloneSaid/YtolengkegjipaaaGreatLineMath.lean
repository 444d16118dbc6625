/- The plain mathematics of lines: a word's bytes, bytes' words. Conditions: none. -/
import Derived.Test.YtolengkegjipaaaGreatKBase
namespace Go.Proofs.YtolengkegjipaaaGreat
namespace LM
/-- The k-th byte of a word. -/
def wb (x : Int) (k : Nat) : Int := x / 256 ^ k % 256
theorem lim_of {l : List Int} {m : Int} (h : ∀ z ∈ l, 0 ≤ z ∧ z < m) : Lim l m := fun j hj => by
  have : l.getD j 0 ∈ l := by simp [List.getD_eq_getElem?_getD, hj]
  exact h _ this
theorem of_lim {l : List Int} {m : Int} (h : Lim l m) : ∀ z ∈ l, 0 ≤ z ∧ z < m := fun z hz => by
  obtain ⟨j, hj, rfl⟩ := List.getElem_of_mem hz
  have := h j hj
  simpa [List.getD_eq_getElem?_getD, hj] using this
theorem eightOf {l : List Int} (h : l.length = 8) : ∃ a b c d e f g i : Int, l = [a, b, c, d, e, f, g, i] := by
  match l, h with
  | [a, b, c, d, e, f, g, i], _ => exact ⟨a, b, c, d, e, f, g, i, rfl⟩
theorem take8 (zs : List Int) (k : Nat) (h : 8 * k + 8 ≤ zs.length) : ∃ a b c d e f g i : Int, (zs.drop (8 * k)).take 8 = [a, b, c, d, e, f, g, i] ∧ zs.take (8 * (k + 1)) = zs.take (8 * k) ++ [a, b, c, d, e, f, g, i] := by
  obtain ⟨a, b, c, d, e, f, g, i, hl⟩ := eightOf (l := (zs.drop (8 * k)).take 8) (by rw [List.length_take, List.length_drop]; omega)
  refine ⟨a, b, c, d, e, f, g, i, hl, ?_⟩
  rw [← hl, show 8 * (k + 1) = 8 * k + 8 from by omega, List.take_add]
theorem getD8 {zs l : List Int} {s : Nat} (h : (zs.drop s).take 8 = l) (j : Nat) (hj : j < 8) : zs.getD (s + j) 0 = l.getD j 0 := by
  rw [← h]
  simp only [List.getD_eq_getElem?_getD]
  rw [List.getElem?_take, if_pos hj, List.getElem?_drop]
theorem lim_sub {zs : List Int} {m : Int} (h : Lim zs m) (s n : Nat) : Lim ((zs.drop s).take n) m := lim_of fun z hz => of_lim h z (List.mem_of_mem_drop (List.mem_of_mem_take hz))
end LM
theorem add_spot (a : Addr) (i j : Nat) (hj : 0 < j) : a.add (i + j) = ⟨(a.add i).block, (a.add i).off + j, none⟩ := by
  unfold Addr.add
  rw [if_neg (by omega)]
  by_cases hi : i = 0
  · subst hi; simp
  · rw [if_neg hi]; simp; omega
/-- The eight cells of a line of a row of lines, as a load reads them. -/
def Cells8 (w : World) (p : Addr) (k : IntKind) (a b c d e f g i : Int) : Prop :=
  w.cell? p = some (.int k a) ∧ w.cell? ⟨p.block, p.off + 1, none⟩ = some (.int k b) ∧ w.cell? ⟨p.block, p.off + 2, none⟩ = some (.int k c) ∧ w.cell? ⟨p.block, p.off + 3, none⟩ = some (.int k d) ∧
  w.cell? ⟨p.block, p.off + 4, none⟩ = some (.int k e) ∧ w.cell? ⟨p.block, p.off + 5, none⟩ = some (.int k f) ∧ w.cell? ⟨p.block, p.off + 6, none⟩ = some (.int k g) ∧ w.cell? ⟨p.block, p.off + 7, none⟩ = some (.int k i)
theorem line_at {w : World} {kd : IntKind} {ad : Addr} {zs : List Int} {m : Int} (hc : ∀ j, j < zs.length → w.cell? (ad.add j) = some (.int kd (zs.getD j 0))) (k : Nat) (h : 8 * k + 8 ≤ zs.length) (hlim : Lim zs m) :
    ∃ a b c d e f g i : Int, (zs.drop (8 * k)).take 8 = [a, b, c, d, e, f, g, i] ∧ zs.take (8 * (k + 1)) = zs.take (8 * k) ++ [a, b, c, d, e, f, g, i] ∧ Lim [a, b, c, d, e, f, g, i] m ∧ Cells8 w (ad.add (k * 8)) kd a b c d e f g i := by
  obtain ⟨a, b, c, d, e, f, g, i, h1, h2⟩ := LM.take8 zs k h
  refine ⟨a, b, c, d, e, f, g, i, h1, h2, by rw [← h1]; exact LM.lim_sub hlim _ _, ?_⟩
  have hj : ∀ j, j < 8 → w.cell? (ad.add (k * 8 + j)) = some (.int kd ([a, b, c, d, e, f, g, i].getD j 0)) := fun j hj => by
    rw [hc _ (by omega), Nat.mul_comm k 8, LM.getD8 h1 j hj]
  have hs : ∀ j, 0 < j → j < 8 → w.cell? ⟨(ad.add (k * 8)).block, (ad.add (k * 8)).off + j, none⟩ = some (.int kd ([a, b, c, d, e, f, g, i].getD j 0)) := fun j h0 h8 => by
    rw [← add_spot _ _ _ h0]; exact hj j h8
  exact ⟨hj 0 (by omega), hs 1 (by omega) (by omega), hs 2 (by omega) (by omega), hs 3 (by omega) (by omega), hs 4 (by omega) (by omega), hs 5 (by omega) (by omega), hs 6 (by omega) (by omega), hs 7 (by omega) (by omega)⟩
end Go.Proofs.YtolengkegjipaaaGreat

