/- Rows of elements that take several cells of integers each (lines): what they read as, that elements may be laid behind them; make. Conditions: those that each theorem names. -/
import Derived.Test.YthbngenjcgclgaaInts
import Derived.Laws.MakeOwn
import Derived.Laws.OwnMore
import Derived.Laws.AppendOwnNone
namespace Go.Proofs.Ythbngenjcgclgaa
open Go.ChangeShapes Go.WideShapes Go.ChangeAt Go.RowKit
set_option linter.unusedVariables false

/-- A row of the call's own, from block B on: n elements of 'size' cells each, all of them together the integers zs. -/
def RowN (w : World) (B : Nat) (e : TypeId) (size : Nat) (k : IntKind) (v : Value) (n : Nat) (zs : List Int) : Prop := w.ownsRow B e size v n (zs.map (Value.int k))
section
variable {w w' : World} {B B' n size : Nat} {e : TypeId} {k : IntKind} {v : Value} {zs : List Int}
theorem RowN.of_row (h : Row w B e k v zs) : RowN w B e 1 k v zs.length zs := h
theorem RowN.row (h : RowN w B e 1 k v n zs) : Row w B e k v zs := by
  have hl : zs.length = n := by have := h.1; simpa using this
  unfold Row; rw [hl]; exact h
theorem RowN.len (h : RowN w B e size k v n zs) : zs.length = n * size := by have := h.1; simpa using this
theorem RowN.nil (w : World) (B : Nat) (e : TypeId) (size : Nat) (k : IntKind) : RowN w B e size k (.slice none 0 0) 0 [] := World.ownsRow_nil w B e size
theorem RowN.form (h : RowN w B e size k v n zs) (hs : 0 < size) :
    ∃ A c, v = .slice A n c ∧ n ≤ c ∧ c ≤ maxLen ∧ Ints w k A zs ∧ (0 < n → ∃ g, A = some ⟨g, 0, none⟩ ∧ B ≤ g ∧ g < w.heap.size) ∧ (A = none → n = 0) := by
  have hl := h.len
  rcases h.2 with ⟨hv, hn⟩ | ⟨g, cap, cur, hv, hg, hh, hnc, hcm, hcs, ht⟩
  · subst hn
    exact ⟨none, 0, hv, Nat.le_refl _, Nat.zero_le _, fun h0 => absurd h0 (by omega), fun h0 => absurd h0 (by omega), fun _ => rfl⟩
  · have hlt : g < w.heap.size := by
      rcases Nat.lt_or_ge g w.heap.size with hlt | hge
      · exact hlt
      · rw [Array.getElem?_eq_none hge] at hh; cases hh
    have h' : w.ownsRow B e size (.slice (some ⟨g, 0, none⟩) n cap) n (zs.map (Value.int k)) := by rw [← hv]; exact h
    refine ⟨some ⟨g, 0, none⟩, cap, hv, hnc, hcm, fun _ => ⟨_, rfl, hlt, fun j hj => ?_⟩, fun _ => ⟨g, rfl, hg, hlt⟩, fun e => by cases e⟩
    rw [at0, h'.cellAt j (by omega)]
    simp [List.getD_eq_getElem?_getD, hj]
theorem RowN.mono (h : RowN w B e size k v n zs) (hB : B' ≤ B) : RowN w B' e size k v n zs := by
  refine ⟨h.1, ?_⟩
  rcases h.2 with h2 | ⟨g, cap, cur, hv, hg, r⟩
  · exact Or.inl h2
  · exact Or.inr ⟨g, cap, cur, hv, Nat.le_trans hB hg, r⟩
theorem RowN.ext (h : RowN w B e size k v n zs) (x : Ext w w') : RowN w' B e size k v n zs := by
  refine ⟨h.1, ?_⟩
  rcases h.2 with h2 | ⟨g, cap, cur, hv, hg, hh, r⟩
  · exact Or.inl h2
  · refine Or.inr ⟨g, cap, cur, hv, hg, ?_, r⟩
    have hlt : g < w.heap.size := by
      rcases Nat.lt_or_ge g w.heap.size with hlt | hge
      · exact hlt
      · rw [Array.getElem?_eq_none hge] at hh; cases hh
    rw [x.block g hlt]; exact hh
theorem RowN.off {g : Nat} (h : RowN w B e size k v n zs) (hg : w.heap.size ≤ g) : v.ownBlock ≠ some g := fun he => by
  have := (World.ownsRow.lt h g he).2
  omega
/-- A row whose block has not turned. -/
theorem RowN.kept (h : RowN w B e size k v n zs) (hk : ∀ g, v.ownBlock = some g → w'.heap[g]? = w.heap[g]?) : RowN w' B e size k v n zs := by
  refine ⟨h.1, ?_⟩
  rcases h.2 with h2 | ⟨g, cap, cur, hv, hg, hh, r⟩
  · exact Or.inl h2
  · refine Or.inr ⟨g, cap, cur, hv, hg, ?_, r⟩
    rw [hk g (by rw [hv]; rfl)]; exact hh
end
/-- make([]T, n, c), of elements whose cells are all the integer 0. -/
theorem run_makeInts {P : Program} {t e : TypeId} {i : TypeInfo} {z : Value} {k : IntKind} {size : Nat} (ht : P.underlying t = some (.slice e)) (hi : P.info? e = some i) (hz : i.zero = some z) (hsize : i.size = size)
    (n c : Nat) (hnc : n ≤ c) (hb : i.bytes * c ≤ 281474976710656) (hc : c ≤ maxLen) (W : World) :
    (Instr.makeSlice t (.int .i64 (n : Int)) (.int .i64 (c : Int))).run P W = .ok (.slice (some ⟨W.heap.size, 0, none⟩) n c) (W.alloc (.cells (madeCells z.cells (c * size)) e)) := by
  subst hsize
  have hb' : (i.bytes : Int) * (c : Int) ≤ 281474976710656 := by
    have h : ((i.bytes * c : Nat) : Int) ≤ 281474976710656 := by omega
    rwa [Int.natCast_mul] at h
  have hr := run_make (P := P) W t e i z ht hi hz .i64 .i64 (n : Int) (c : Int) (by omega) (by omega) hb' (by unfold maxLen at hc; omega)
  simpa using hr
/-- What was made is a row of noughts. -/
theorem RowN.made (W : World) (e : TypeId) (size n c : Nat) (k : IntKind) (z : Array Value) (hz : ∀ j, j < z.size → z[j]! = .int k 0) (hs : z.size = size) (h0 : 0 < size) (hnc : n ≤ c) (hc : c ≤ maxLen) :
    RowN (W.alloc (.cells (madeCells z (c * size)) e)) W.heap.size e size k (.slice (some ⟨W.heap.size, 0, none⟩) n c) n (List.replicate (n * size) 0) := by
  refine ⟨by simp, Or.inr ⟨W.heap.size, c, _, rfl, Nat.le_refl _, heap_alloc_new W _, hnc, hc, size_madeCells _ _, ?_⟩⟩
  apply List.ext_getElem
  · simp [madeCells, Nat.min_eq_left hnc]
  · intro j h1 h2
    have hj : j < c * size := Nat.lt_of_lt_of_le (by simpa using h2) (Nat.mul_le_mul_right size hnc)
    simp only [List.getElem_take, Array.getElem_toList, madeCells, Array.getElem_map, Array.getElem_range, List.getElem_map, List.getElem_replicate]
    exact hz _ (Nat.mod_lt _ (by omega))
section
variable {P : Program}
/-- append(s, x...), of a row of the call's own, x read as integers: of the old blocks just the row's own may turn, and the new row lies there, or in a new block. -/
theorem wpList_appN {ops : Array Oper} {rest : List Oper} {o : Oper} {a : Act} {Q : Exit → Act → World → Prop} (hgd : o.guard = none) (s x : Operand) (t : TypeId)
    (ho : o.op = .call { callee := .builtin .append, args := #[s, x], argTypes := #[t, t] })
    (e : TypeId) (k : IntKind) (size bytes : Nat) (z : Value) (hinfo : (P.info? e).map (fun i => (i.zero, i.size, i.bytes)) = some (some z, size, bytes)) (hzs : z.cells.size = size) (hsz : 0 < size) (hby : bytes ≤ 64) (ht : P.underlying t = some (.slice e))
    (w0 W : World) (v : Value) (n : Nat) (zs : List Int) (hs : a.eval s = v) (hrow : RowN W w0.heap.size e size k v n zs) (ext : Ext w0 W)
    (ad : Addr) (m c : Nat) (news : List Int) (hx : a.eval x = .slice (some ad) m c) (hm : news.length = m * size) (hI : ∀ j, j < news.length → W.cell? (ad.add j) = some (.int k (news.getD j 0))) (hlen : n + m < 1000000000)
    (h : ∀ v' w', RowN w' w0.heap.size e size k v' (n + m) (zs ++ news) → Ext w0 w' → (∀ g, g < W.heap.size → v.ownBlock ≠ some g → w'.heap[g]? = W.heap[g]? ∧ v'.ownBlock ≠ some g) → W.heap.size ≤ w'.heap.size → wpList P ops Q rest (a.put o.dst v') w') :
    wpList P ops Q (o :: rest) a W := by
  obtain ⟨i, hi, hz0, hz1, hz2⟩ := info_parts hinfo
  refine wpList_append_own_at _ hgd s x t ho w0.heap.size e i z size bytes ht hi hz0 hz1 hz2 hzs hsz v n (zs.map (Value.int k)) hs hrow ad m c (news.map (Value.int k)) hx (by simpa using hm) ?_ ?_ ?_ ?_ ?_ ?_
  · intro j u hj
    have hjl : j < news.length := by
      rcases Nat.lt_or_ge j news.length with h1 | h1
      · exact h1
      · rw [List.getElem?_eq_none (by simpa using h1)] at hj; cases hj
    rw [hI j hjl]
    simp [List.getD_eq_getElem?_getD, hjl] at hj ⊢
    exact hj
  · intro u hu
    obtain ⟨y, _, rfl⟩ := List.mem_map.1 hu
    rfl
  · unfold maxLen; omega
  · have : (n + m) * bytes ≤ 1000000000 * 64 := Nat.mul_le_mul (by omega) hby
    omega
  · exact ext.size
  · intro v' w' hown hg _ hat
    refine h v' w' ?_ ?_ ?_ hg.size
    · unfold RowN
      rw [List.map_append]
      exact hown
    · have hlt := World.ownsRow.lt hrow
      exact Ext.of (ext.below.grown hg ext.size (fun q hq => (hlt q hq).1))
    · intro g hgl hne
      refine ⟨hg.block g hgl (fun e => hne e.symm), ?_⟩
      rcases hat with e | e
      · rw [e]; exact hne
      · rw [e]
        simp
        omega
end
theorem byte_info : (Try.prog.info? 5).map (fun i => (i.zero, i.size, i.bytes)) = some (some (.int .u8 0), 1, 1) := by kernel_rfl
theorem int_info : (Try.prog.info? 3).map (fun i => (i.zero, i.size, i.bytes)) = some (some (.int .i64 0), 1, 8) := by kernel_rfl
def z8 : Array Value := #[.int .u64 0, .int .u64 0, .int .u64 0, .int .u64 0, .int .u64 0, .int .u64 0, .int .u64 0, .int .u64 0]
theorem one_zero {k : IntKind} : ∀ j, j < (#[Value.int k 0]).size → (#[Value.int k 0])[j]! = .int k 0 := fun j hj => by
  obtain rfl : j = 0 := by simp at hj; omega
  rfl
theorem z8_zero : ∀ j, j < z8.size → z8[j]! = .int .u64 0 := fun j hj => by
  have hj' : j < 8 := hj
  match j, hj' with
  | 0, _ => rfl
  | 1, _ => rfl
  | 2, _ => rfl
  | 3, _ => rfl
  | 4, _ => rfl
  | 5, _ => rfl
  | 6, _ => rfl
  | 7, _ => rfl
/-- What a fresh make of integers is. -/
theorem Row.made (W : World) (e : TypeId) (n c : Nat) (k : IntKind) (hnc : n ≤ c) (hc : c ≤ 1000000000) :
    Row (W.alloc (.cells (madeCells #[.int k 0] (c * 1)) e)) W.heap.size e k (.slice (some ⟨W.heap.size, 0, none⟩) n c) (List.replicate n 0) := by
  have h := RowN.made W e 1 n c k #[.int k 0] one_zero rfl (by decide) hnc (by unfold maxLen; omega)
  have h2 := h.row
  rw [Nat.mul_one n] at h2
  exact h2
end Go.Proofs.Ythbngenjcgclgaa
