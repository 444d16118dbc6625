/- Rows that were seen, held beside a device that goes on. Conditions: those that each theorem names. -/
import Derived.Test.YtibeeobhpdallaaOnce1
namespace Go.Proofs.Ytibeeobhpdallaa
open Go.ChangeShapes Go.WideShapes Go.ChangeAt Go.RowKit
set_option linter.unusedVariables false
/-- Rows of words, by their slices. -/
def Rows4 (w : World) (us : List Value) (Zs : List (List Int)) (N : Nat) (G : Nat → Prop) : Prop := us.length = Zs.length ∧ ∀ j, j < us.length → ∃ g c, us.getD j undef = .slice (some ⟨g, 0, none⟩) N c ∧ N ≤ c ∧ c ≤ maxLen ∧ Ints w .u64 (some ⟨g, 0, none⟩) (Zs.getD j []) ∧ g < w.heap.size ∧ G g
def Held (w0 w : World) (v : Value) (s : DSt) (vr : Value) (us : List Value) (Zs : List (List Int)) (N : Nat) : Prop :=
  ∃ Q wb, AtQ Q wb w0 w v s ∧ (∀ g, vr.ownBlock = some g → Q g) ∧ Rows4 w us Zs N (fun g => Q g ∧ vr.ownBlock ≠ some g) ∧ RowV w w0.heap.size vr us
theorem RowV.kept {w w' : World} {B : Nat} {v : Value} {us : List Value} (h : RowV w B v us) (hk : ∀ g, v.ownBlock = some g → w'.heap[g]? = w.heap[g]?) : RowV w' B v us := by
  refine ⟨h.1, ?_⟩
  rcases h.2 with h2 | ⟨g, cap, cur, hv, hg, hh, r⟩
  · exact Or.inl h2
  · refine Or.inr ⟨g, cap, cur, hv, hg, ?_, r⟩
    rw [hk g (by rw [hv]; rfl)]; exact hh
theorem RowV.lt {w : World} {B : Nat} {v : Value} {us : List Value} (h : RowV w B v us) (g : Nat) (hg : v.ownBlock = some g) : B ≤ g ∧ g < w.heap.size := World.ownsRow.lt h g hg
theorem AtQ.same {Q : Nat → Prop} {wb w0 w w' : World} {v v' : Value} {s s' : DSt} (h : AtQ Q wb w0 w v s) (h' : AtQ Q wb w0 w' v' s') (g : Nat) (hg : Q g) : w'.heap[g]? = w.heap[g]? := by
  obtain ⟨_, _, _, _, hQ⟩ := h
  obtain ⟨_, _, _, _, hQ'⟩ := h'
  rw [(hQ g hg).2.2, (hQ' g hg).2.2]
theorem AtQ.lt {Q : Nat → Prop} {wb w0 w : World} {v : Value} {s : DSt} (h : AtQ Q wb w0 w v s) (g : Nat) (hg : Q g) : g < w.heap.size := by
  obtain ⟨_, _, _, _, hQ⟩ := h
  exact (hQ g hg).1
theorem ints_block {w w' : World} {k : IntKind} {g : Nat} {zs : List Int} (hI : Ints w k (some ⟨g, 0, none⟩) zs) (e : w'.heap[g]? = w.heap[g]?) (hl : g < w'.heap.size) : Ints w' k (some ⟨g, 0, none⟩) zs := fun h0 => by
  obtain ⟨ad, e1, _, hc⟩ := hI h0
  injection e1 with e1
  subst e1
  exact ⟨_, rfl, hl, fun j hj => by rw [← hc j hj]; exact World.cell?_of_block (by rw [add_block]; exact e)⟩
/-- The device has gone on; what is held is as it was. -/
theorem Held.go {w0 w w' : World} {v : Value} {s s' : DSt} {vr : Value} {us : List Value} {Zs : List (List Int)} {N : Nat} {Q : Nat → Prop} {wb : World} (hA : AtQ Q wb w0 w v s) (hq : ∀ g, vr.ownBlock = some g → Q g) (hr : Rows4 w us Zs N (fun g => Q g ∧ vr.ownBlock ≠ some g)) (hrow : RowV w w0.heap.size vr us) (hA' : AtQ Q wb w0 w' v s') :
    Rows4 w' us Zs N (fun g => Q g ∧ vr.ownBlock ≠ some g) ∧ RowV w' w0.heap.size vr us := by
  refine ⟨⟨hr.1, fun j hj => ?_⟩, hrow.kept fun g hg => hA.same hA' g (hq g hg)⟩
  obtain ⟨g, c, e, h1, h2, hI, hl, hQg, hne⟩ := hr.2 j hj
  exact ⟨g, c, e, h1, h2, ints_block hI (hA.same hA' g hQg) (hA'.lt g hQg), hA'.lt g hQg, hQg, hne⟩
/-- One more row is held. -/
theorem Held.more {w0 w2 w3 w' : World} {v : Value} {s : DSt} {vr v' : Value} {us : List Value} {Zs : List (List Int)} {N g3 c3 : Nat} {zs : List Int} {Q : Nat → Prop} {wb : World} (hA : AtQ Q wb w0 w2 v s) (hq : ∀ g, vr.ownBlock = some g → Q g) (hr : Rows4 w2 us Zs N (fun g => Q g ∧ vr.ownBlock ≠ some g)) (hrow : RowV w2 w0.heap.size vr us)
    (x3 : Ext w2 w3) (k3 : N ≤ c3) (j3 : c3 ≤ maxLen) (I3 : Ints w3 .u64 (some ⟨g3, 0, none⟩) zs) (l3 : w2.heap.size ≤ g3) (r3 : g3 < w3.heap.size)
    (hrow' : RowV w' w0.heap.size v' (us ++ [.slice (some ⟨g3, 0, none⟩) N c3])) (x' : Ext w0 w') (f : Fr (fun g => vr.ownBlock = some g) w3 w') (ho : ∀ g, v'.ownBlock = some g → vr.ownBlock = some g ∨ w3.heap.size ≤ g) :
    Held w0 w' v s v' (us ++ [.slice (some ⟨g3, 0, none⟩) N c3]) (Zs ++ [zs]) N := by
  have hB := hA.hold x3 g3 l3 r3
  have hsz := f.size
  have hC : AtQ (fun g => Q g ∨ g = g3 ∨ v'.ownBlock = some g) w' w0 w' v s := hB.turn x' f (fun g hg => Or.inl (hq g hg)) (fun g hg => by
    rcases hg with hg | rfl | hg
    · exact ⟨Nat.lt_of_lt_of_le (hB.lt g (Or.inl hg)) hsz, Or.inl (Or.inl hg)⟩
    · exact ⟨Nat.lt_of_lt_of_le r3 hsz, Or.inl (Or.inr rfl)⟩
    · refine ⟨(hrow'.lt g hg).2, ?_⟩
      rcases ho g hg with h | h
      · exact Or.inl (Or.inl (hq g h))
      · exact Or.inr h)
  refine ⟨_, _, hC, fun g hg => Or.inr (Or.inr hg), ⟨by simp [hr.1], fun j hj => ?_⟩, hrow'⟩
  rw [List.length_append, List.length_singleton] at hj
  by_cases hj2 : j < us.length
  · obtain ⟨g, c, e, h1, h2, hI, hl, hQg, hne⟩ := hr.2 j hj2
    have hl3 : g < w3.heap.size := Nat.lt_of_lt_of_le hl x3.size
    refine ⟨g, c, ?_, h1, h2, ?_, Nat.lt_of_lt_of_le hl3 hsz, Or.inl hQg, fun hh => ?_⟩
    · rw [List.getD_eq_getElem?_getD, List.getElem?_append_left hj2, ← List.getD_eq_getElem?_getD]; exact e
    · rw [List.getD_eq_getElem?_getD, List.getElem?_append_left (by rw [← hr.1]; exact hj2), ← List.getD_eq_getElem?_getD]
      exact ints_block (hI.ext x3) (f.block g hl3 hne) (Nat.lt_of_lt_of_le hl3 hsz)
    · rcases ho g hh with h | h
      · exact hne h
      · omega
  · obtain rfl : j = us.length := by omega
    have hne : vr.ownBlock ≠ some g3 := fun hh => by have := (hrow.lt g3 hh).2; omega
    refine ⟨g3, c3, ?_, k3, j3, ?_, Nat.lt_of_lt_of_le r3 hsz, Or.inr (Or.inl rfl), fun hh => ?_⟩
    · simp [List.getD_eq_getElem?_getD]
    · rw [hr.1]
      have : (Zs ++ [zs]).getD Zs.length [] = zs := by simp [List.getD_eq_getElem?_getD]
      rw [this]
      exact ints_block I3 (f.block g3 r3 hne) (Nat.lt_of_lt_of_le r3 hsz)
    · rcases ho g3 hh with h | h
      · exact hne h
      · omega
theorem RowV.new (w0 w : World) (x : Ext w0 w) (u : Value) : RowV (w.alloc (.cells #[u] 22)) w0.heap.size (.slice (some ⟨w.heap.size, 0, none⟩) 1 1) [u] :=
  World.ownsRow_lit (e := 22) (size := 1) (base := w0.heap.size) w #[u] 1 x.size (by decide) rfl
/-- The first row is held. -/
theorem Held.first {w0 w2 w3 : World} {v : Value} {s : DSt} {N g3 c3 : Nat} {zs : List Int} {Q : Nat → Prop} {wb : World} (hA : AtQ Q wb w0 w2 v s) (x3 : Ext w2 w3) (k3 : N ≤ c3) (j3 : c3 ≤ maxLen) (I3 : Ints w3 .u64 (some ⟨g3, 0, none⟩) zs) (l3 : w2.heap.size ≤ g3) (r3 : g3 < w3.heap.size) :
    Held w0 (w3.alloc (.cells #[.slice (some ⟨g3, 0, none⟩) N c3] 22)) v s (.slice (some ⟨w3.heap.size, 0, none⟩) 1 1) [.slice (some ⟨g3, 0, none⟩) N c3] [zs] N := by
  have hB := hA.hold x3 g3 l3 r3
  have e0 : Ext w0 w3 := by
    obtain ⟨_, _, _, e, _⟩ := hB
    exact e
  have hx : Ext w3 (w3.alloc (.cells #[.slice (some ⟨g3, 0, none⟩) N c3] 22)) := (Ext.refl w3).alloc _
  have hC : AtQ (fun g => g = g3 ∨ g = w3.heap.size) (w3.alloc (.cells #[.slice (some ⟨g3, 0, none⟩) N c3] 22)) w0 (w3.alloc (.cells #[.slice (some ⟨g3, 0, none⟩) N c3] 22)) v s := hB.turn (e0.trans hx) (Fr.of_ext (S := fun _ => False) hx) (fun g hg => hg.elim) (fun g hg => by
    rcases hg with rfl | rfl
    · exact ⟨by simp; omega, Or.inl (Or.inr rfl)⟩
    · exact ⟨by simp, Or.inr (Nat.le_refl _)⟩)
  refine ⟨_, _, hC, fun g hg => Or.inr (by simpa [Value.ownBlock] using hg.symm), ⟨rfl, fun j hj => ?_⟩, RowV.new w0 w3 e0 _⟩
  obtain rfl : j = 0 := by simpa using hj
  exact ⟨g3, c3, rfl, k3, j3, I3.ext hx, by simp; omega, Or.inl rfl, fun hh => by simp [Value.ownBlock] at hh; omega⟩
theorem Rows4.ext {w w' : World} {us : List Value} {Zs : List (List Int)} {N : Nat} {G : Nat → Prop} (h : Rows4 w us Zs N G) (x : Ext w w') : Rows4 w' us Zs N G := ⟨h.1, fun j hj => by
  obtain ⟨g, c, e, h1, h2, hI, hl, hg⟩ := h.2 j hj
  exact ⟨g, c, e, h1, h2, hI.ext x, Nat.lt_of_lt_of_le hl x.size, hg⟩⟩
theorem RowV.ext {w w' : World} {B : Nat} {v : Value} {us : List Value} (h : RowV w B v us) (x : Ext w w') : RowV w' B v us := h.kept fun g hg => x.block g (h.lt g hg).2
theorem RowV.at_ {w : World} {B : Nat} {v : Value} {us : List Value} (h : RowV w B v us) (n : Nat) (hn : us.length = n) (h0 : 0 < n) : ∃ g c, v = .slice (some ⟨g, 0, none⟩) n c ∧ n ≤ c ∧ g < w.heap.size ∧ ∀ j, j < n → w.cell? ⟨g, j, none⟩ = some (us.getD j undef) := by
  subst hn
  rcases h.2 with ⟨hv, hn⟩ | ⟨g, cap, cur, hv, hg, hh, hnc, hcm, hcs, ht⟩
  · omega
  · have hlt : g < w.heap.size := (Array.getElem?_eq_some_iff.1 hh).1
    refine ⟨g, cap, hv, hnc, hlt, fun j hj => ?_⟩
    have h' : w.ownsRow B 22 1 (.slice (some ⟨g, 0, none⟩) us.length cap) us.length us := by rw [← hv]; exact h
    rw [h'.cellAt j (by omega)]
    simp [List.getD_eq_getElem?_getD, hj]
end Go.Proofs.Ytibeeobhpdallaa
