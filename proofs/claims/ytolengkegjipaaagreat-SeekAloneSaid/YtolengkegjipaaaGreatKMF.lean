/- Rows of elements that take several cells of integers each (lines): what they read as, that elements may be laid behind them; make. Conditions: those that each theorem names. -/
import Derived.Test.YtolengkegjipaaaGreatKBase
import Derived.Laws.MakeOwn
import Derived.Laws.OwnMore
import Derived.Laws.AppendOwnNone
namespace Go.Proofs.YtolengkegjipaaaGreat
open Go.ChangeShapes Go.WideShapes Go.ChangeAt Go.RowKit
set_option linter.unusedVariables false

/-- A row of the call's own, from block B on: n elements of 'size' cells each, all of them together the integers zs. -/
def RowN (w : World) (B : Nat) (e : TypeId) (size : Nat) (k : IntKind) (v : Value) (n : Nat) (zs : List Int) : Prop := w.ownsRow B e size v n (zs.map (Value.int k))
section
variable {w w' : World} {B B' n size : Nat} {e : TypeId} {k : IntKind} {v : Value} {zs : List Int}
theorem RowN.of_row (h : Row w B e k v zs) : RowN w B e 1 k v zs.length zs := h
theorem RowN.row (h : RowN w B e 1 k v n zs) : Row w B e k v zs := by
  have hl : zs.length = n := by have := h.1; simpa using this
  unfold Row; rw [hl]; exact h
theorem RowN.len (h : RowN w B e size k v n zs) : zs.length = n * size := by have := h.1; simpa using this
theorem RowN.nil (w : World) (B : Nat) (e : TypeId) (size : Nat) (k : IntKind) : RowN w B e size k (.slice none 0 0) 0 [] := World.ownsRow_nil w B e size
theorem RowN.form (h : RowN w B e size k v n zs) (hs : 0 < size) :
    ∃ A c, v = .slice A n c ∧ n ≤ c ∧ c ≤ maxLen ∧ Ints w k A zs ∧ (0 < n → ∃ g, A = some ⟨g, 0, none⟩ ∧ B ≤ g ∧ g < w.heap.size) ∧ (A = none → n = 0) := by
  have hl := h.len
  rcases h.2 with ⟨hv, hn⟩ | ⟨g, cap, cur, hv, hg, hh, hnc, hcm, hcs, ht⟩
  · subst hn
    exact ⟨none, 0, hv, Nat.le_refl _, Nat.zero_le _, fun h0 => absurd h0 (by omega), fun h0 => absurd h0 (by omega), fun _ => rfl⟩
  · have hlt : g < w.heap.size := by
      rcases Nat.lt_or_ge g w.heap.size with hlt | hge
      · exact hlt
      · rw [Array.getElem?_eq_none hge] at hh; cases hh
    have h' : w.ownsRow B e size (.slice (some ⟨g, 0, none⟩) n cap) n (zs.map (Value.int k)) := by rw [← hv]; exact h
    refine ⟨some ⟨g, 0, none⟩, cap, hv, hnc, hcm, fun _ => ⟨_, rfl, hlt, fun j hj => ?_⟩, fun _ => ⟨g, rfl, hg, hlt⟩, fun e => by cases e⟩
    rw [at0, h'.cellAt j (by omega)]
    simp [List.getD_eq_getElem?_getD, hj]
theorem RowN.mono (h : RowN w B e size k v n zs) (hB : B' ≤ B) : RowN w B' e size k v n zs := by
  refine ⟨h.1, ?_⟩
  rcases h.2 with h2 | ⟨g, cap, cur, hv, hg, r⟩
  · exact Or.inl h2
  · exact Or.inr ⟨g, cap, cur, hv, Nat.le_trans hB hg, r⟩
theorem RowN.ext (h : RowN w B e size k v n zs) (x : Ext w w') : RowN w' B e size k v n zs := by
  refine ⟨h.1, ?_⟩
  rcases h.2 with h2 | ⟨g, cap, cur, hv, hg, hh, r⟩
  · exact Or.inl h2
  · refine Or.inr ⟨g, cap, cur, hv, hg, ?_, r⟩
    have hlt : g < w.heap.size := by
      rcases Nat.lt_or_ge g w.heap.size with hlt | hge
      · exact hlt
      · rw [Array.getElem?_eq_none hge] at hh; cases hh
    rw [x.block g hlt]; exact hh
theorem RowN.off {g : Nat} (h : RowN w B e size k v n zs) (hg : w.heap.size ≤ g) : v.ownBlock ≠ some g := fun he => by
  have := (World.ownsRow.lt h g he).2
  omega
/-- A row whose block has not turned. -/
theorem RowN.kept (h : RowN w B e size k v n zs) (hk : ∀ g, v.ownBlock = some g → w'.heap[g]? = w.heap[g]?) : RowN w' B e size k v n zs := by
  refine ⟨h.1, ?_⟩
  rcases h.2 with h2 | ⟨g, cap, cur, hv, hg, hh, r⟩
  · exact Or.inl h2
  · refine Or.inr ⟨g, cap, cur, hv, hg, ?_, r⟩
    rw [hk g (by rw [hv]; rfl)]; exact hh
end
/-- make([]T, n, c), of elements whose cells are all the integer 0. -/
theorem run_makeInts {P : Program} {t e : TypeId} {i : TypeInfo} {z : Value} {k : IntKind} {size : Nat} (ht : P.underlying t = some (.slice e)) (hi : P.info? e = some i) (hz : i.zero = some z) (hsize : i.size = size)
    (n c : Nat) (hnc : n ≤ c) (hb : i.bytes * c ≤ 281474976710656) (hc : c ≤ maxLen) (W : World) :
    (Instr.makeSlice t (.int .i64 (n : Int)) (.int .i64 (c : Int))).run P W = .ok (.slice (some ⟨W.heap.size, 0, none⟩) n c) (W.alloc (.cells (madeCells z.cells (c * size)) e)) := by
  subst hsize
  have hb' : (i.bytes : Int) * (c : Int) ≤ 281474976710656 := by
    have h : ((i.bytes * c : Nat) : Int) ≤ 281474976710656 := by omega
    rwa [Int.natCast_mul] at h
  have hr := run_make (P := P) W t e i z ht hi hz .i64 .i64 (n : Int) (c : Int) (by omega) (by omega) hb' (by unfold maxLen at hc; omega)
  simpa using hr
/-- What was made is a row of noughts. -/
theorem RowN.made (W : World) (e : TypeId) (size n c : Nat) (k : IntKind) (z : Array Value) (hz : ∀ j, j < z.size → z[j]! = .int k 0) (hs : z.size = size) (h0 : 0 < size) (hnc : n ≤ c) (hc : c ≤ maxLen) :
    RowN (W.alloc (.cells (madeCells z (c * size)) e)) W.heap.size e size k (.slice (some ⟨W.heap.size, 0, none⟩) n c) n (List.replicate (n * size) 0) := by
  refine ⟨by simp, Or.inr ⟨W.heap.size, c, _, rfl, Nat.le_refl _, heap_alloc_new W _, hnc, hc, size_madeCells _ _, ?_⟩⟩
  apply List.ext_getElem
  · simp [madeCells, Nat.min_eq_left hnc]
  · intro j h1 h2
    have hj : j < c * size := Nat.lt_of_lt_of_le (by simpa using h2) (Nat.mul_le_mul_right size hnc)
    simp only [List.getElem_take, Array.getElem_toList, madeCells, Array.getElem_map, Array.getElem_range, List.getElem_map, List.getElem_replicate]
    exact hz _ (Nat.mod_lt _ (by omega))
section
variable {P : Program}
/-- append(s, x...), of a row of the call's own, x read as integers: of the old blocks just the row's own may turn, and the new row lies there, or in a new block. -/
theorem wpList_appN {ops : Array Oper} {rest : List Oper} {o : Oper} {a : Act} {Q : Exit → Act → World → Prop} (hgd : o.guard = none) (s x : Operand) (t : TypeId)
    (ho : o.op = .call { callee := .builtin .append, args := #[s, x], argTypes := #[t, t] })
    (e : TypeId) (k : IntKind) (size bytes : Nat) (z : Value) (hinfo : (P.info? e).map (fun i => (i.zero, i.size, i.bytes)) = some (some z, size, bytes)) (hzs : z.cells.size = size) (hsz : 0 < size) (hby : bytes ≤ 64) (ht : P.underlying t = some (.slice e))
    (w0 W : World) (v : Value) (n : Nat) (zs : List Int) (hs : a.eval s = v) (hrow : RowN W w0.heap.size e size k v n zs) (ext : Ext w0 W)
    (ad : Addr) (m c : Nat) (news : List Int) (hx : a.eval x = .slice (some ad) m c) (hm : news.length = m * size) (hI : ∀ j, j < news.length → W.cell? (ad.add j) = some (.int k (news.getD j 0))) (hlen : n + m < 1000000000)
    (h : ∀ v' w', RowN w' w0.heap.size e size k v' (n + m) (zs ++ news) → Ext w0 w' → (∀ g, g < W.heap.size → v.ownBlock ≠ some g → w'.heap[g]? = W.heap[g]? ∧ v'.ownBlock ≠ some g) → W.heap.size ≤ w'.heap.size → wpList P ops Q rest (a.put o.dst v') w') :
    wpList P ops Q (o :: rest) a W := by
  obtain ⟨i, hi, hz0, hz1, hz2⟩ := info_parts hinfo
  refine wpList_append_own_at _ hgd s x t ho w0.heap.size e i z size bytes ht hi hz0 hz1 hz2 hzs hsz v n (zs.map (Value.int k)) hs hrow ad m c (news.map (Value.int k)) hx (by simpa using hm) ?_ ?_ ?_ ?_ ?_ ?_
  · intro j u hj
    have hjl : j < news.length := by
      rcases Nat.lt_or_ge j news.length with h1 | h1
      · exact h1
      · rw [List.getElem?_eq_none (by simpa using h1)] at hj; cases hj
    rw [hI j hjl]
    simp [List.getD_eq_getElem?_getD, hjl] at hj ⊢
    exact hj
  · intro u hu
    obtain ⟨y, _, rfl⟩ := List.mem_map.1 hu
    rfl
  · unfold maxLen; omega
  · have : (n + m) * bytes ≤ 1000000000 * 64 := Nat.mul_le_mul (by omega) hby
    omega
  · exact ext.size
  · intro v' w' hown hg _ hat
    refine h v' w' ?_ ?_ ?_ hg.size
    · unfold RowN
      rw [List.map_append]
      exact hown
    · have hlt := World.ownsRow.lt hrow
      exact Ext.of (ext.below.grown hg ext.size (fun q hq => (hlt q hq).1))
    · intro g hgl hne
      refine ⟨hg.block g hgl (fun e => hne e.symm), ?_⟩
      rcases hat with e | e
      · rw [e]; exact hne
      · rw [e]
        simp
        omega
end
theorem word_info : (Tryz.prog.info? 53).map (fun i => (i.zero, i.size, i.bytes)) = some (some (.int .u64 0), 1, 8) := by kernel_rfl
theorem int_info : (Tryz.prog.info? 3).map (fun i => (i.zero, i.size, i.bytes)) = some (some (.int .i64 0), 1, 8) := by kernel_rfl
def z8 : Array Value := #[.int .u64 0, .int .u64 0, .int .u64 0, .int .u64 0, .int .u64 0, .int .u64 0, .int .u64 0, .int .u64 0]
theorem line_info : (Tryz.prog.info? 133).map (fun i => (i.zero, i.size, i.bytes)) = some (some (.agg z8), 8, 64) := by kernel_rfl
theorem make_words (n c : Nat) (hnc : n ≤ c) (hc : c ≤ 1000000000) (W : World) :
    (Instr.makeSlice 65 (.int .i64 (n : Int)) (.int .i64 (c : Int))).run Tryz.prog W = .ok (.slice (some ⟨W.heap.size, 0, none⟩) n c) (W.alloc (.cells (madeCells #[.int .u64 0] (c * 1)) 53)) := by
  obtain ⟨i, hi, hz0, hz1, hz2⟩ := info_parts word_info
  exact run_makeInts (k := .u64) Tryz.underlying65 hi hz0 hz1 n c hnc (by rw [hz2]; omega) (by unfold maxLen; omega) W
theorem make_ints (n c : Nat) (hnc : n ≤ c) (hc : c ≤ 1000000000) (W : World) :
    (Instr.makeSlice 44 (.int .i64 (n : Int)) (.int .i64 (c : Int))).run Tryz.prog W = .ok (.slice (some ⟨W.heap.size, 0, none⟩) n c) (W.alloc (.cells (madeCells #[.int .i64 0] (c * 1)) 3)) := by
  obtain ⟨i, hi, hz0, hz1, hz2⟩ := info_parts int_info
  exact run_makeInts (k := .i64) Tryz.underlying44 hi hz0 hz1 n c hnc (by rw [hz2]; omega) (by unfold maxLen; omega) W
theorem make_lines (n c : Nat) (hnc : n ≤ c) (hc : c ≤ 1000000000) (W : World) :
    (Instr.makeSlice 100 (.int .i64 (n : Int)) (.int .i64 (c : Int))).run Tryz.prog W = .ok (.slice (some ⟨W.heap.size, 0, none⟩) n c) (W.alloc (.cells (madeCells z8 (c * 8)) 133)) := by
  obtain ⟨i, hi, hz0, hz1, hz2⟩ := info_parts line_info
  have h := run_makeInts (k := .u64) Tryz.underlying100 hi hz0 hz1 n c hnc (by rw [hz2]; omega) (by unfold maxLen; omega) W
  exact h
theorem one_zero {k : IntKind} : ∀ j, j < (#[Value.int k 0]).size → (#[Value.int k 0])[j]! = .int k 0 := fun j hj => by
  obtain rfl : j = 0 := by simp at hj; omega
  rfl
theorem z8_zero : ∀ j, j < z8.size → z8[j]! = .int .u64 0 := fun j hj => by
  have hj' : j < 8 := hj
  match j, hj' with
  | 0, _ => rfl
  | 1, _ => rfl
  | 2, _ => rfl
  | 3, _ => rfl
  | 4, _ => rfl
  | 5, _ => rfl
  | 6, _ => rfl
  | 7, _ => rfl
/-- What a fresh make of integers is. -/
theorem Row.made (W : World) (e : TypeId) (n c : Nat) (k : IntKind) (hnc : n ≤ c) (hc : c ≤ 1000000000) :
    Row (W.alloc (.cells (madeCells #[.int k 0] (c * 1)) e)) W.heap.size e k (.slice (some ⟨W.heap.size, 0, none⟩) n c) (List.replicate n 0) := by
  have h := RowN.made W e 1 n c k #[.int k 0] one_zero rfl (by decide) hnc (by unfold maxLen; omega)
  have h2 := h.row
  rw [Nat.mul_one n] at h2
  exact h2
theorem RowN.madeLines (W : World) (n c : Nat) (hnc : n ≤ c) (hc : c ≤ 1000000000) :
    RowN (W.alloc (.cells (madeCells z8 (c * 8)) 133)) W.heap.size 133 8 .u64 (.slice (some ⟨W.heap.size, 0, none⟩) n c) n (List.replicate (n * 8) 0) :=
  RowN.made W _ 8 n c .u64 z8 z8_zero rfl (by decide) hnc (by unfold maxLen; omega)
end Go.Proofs.YtolengkegjipaaaGreat


/- What a call may turn: 'Fr', that of the old blocks at most those of a set have turned; blocks that are known whole; rows under a store. Conditions: those that each theorem names. -/
namespace Go.Proofs.YtolengkegjipaaaGreat
open Go.ChangeShapes Go.WideShapes Go.ChangeAt Go.RowKit
set_option linter.unusedVariables false
/-- Of the blocks that were there at most those of S have turned. -/
structure Fr (S : Nat → Prop) (w w' : World) : Prop where
  os : w'.os = w.os
  tape : w'.tape = w.tape
  output : w'.output = w.output
  size : w.heap.size ≤ w'.heap.size
  block : ∀ g, g < w.heap.size → ¬ S g → w'.heap[g]? = w.heap[g]?
section
variable {S S' : Nat → Prop} {a b c w w' : World}
theorem Fr.of_ext (h : Ext a b) : Fr S a b := ⟨h.os, h.tape, h.output, h.size, fun g hg _ => h.block g hg⟩
theorem Fr.refl (S : Nat → Prop) (a : World) : Fr S a a := Fr.of_ext (Ext.refl a)
theorem Fr.trans (h : Fr S a b) (k : Fr S' b c) (hS : ∀ g, g < a.heap.size → S' g → S g) : Fr S a c :=
  ⟨k.os.trans h.os, k.tape.trans h.tape, k.output.trans h.output, Nat.le_trans h.size k.size, fun g hg hn => (k.block g (Nat.lt_of_lt_of_le hg h.size) (fun hs => hn (hS g hg hs))).trans (h.block g hg hn)⟩
theorem Fr.then_ext (h : Fr S a b) (k : Ext b c) : Fr S a c := h.trans (Fr.of_ext (S := fun _ => False) k) (fun _ _ hs => hs.elim)
theorem Fr.mono (h : Fr S a b) (hS : ∀ g, g < a.heap.size → S g → S' g) : Fr S' a b := ⟨h.os, h.tape, h.output, h.size, fun g hg hn => h.block g hg (fun hs => hn (hS g hg hs))⟩
theorem Fr.drew (h : Fr S a b) : Fr S a b.drew := ⟨h.os, h.tape, h.output, h.size, h.block⟩
theorem Fr.alloc (h : Fr S a b) (o : Obj) : Fr S a (b.alloc o) := h.then_ext ((Ext.refl b).alloc o)
theorem Fr.setCell (h : Fr S a b) {p : Addr} (hp : S p.block ∨ a.heap.size ≤ p.block) (u : Value) : Fr S a (b.setCell p u) :=
  ⟨h.os, h.tape, h.output, by simpa [World.setCell] using h.size, fun g hg hn => (Below.heap_setCell b p u g (fun e => by
    subst e
    rcases hp with hp | hp
    · exact hn hp
    · omega)).trans (h.block g hg hn)⟩
theorem Fr.ext (h : Fr S a b) (x : Ext w a) (hS : ∀ g, S g → w.heap.size ≤ g) : Ext w b :=
  ⟨h.os.trans x.os, h.tape.trans x.tape, h.output.trans x.output, Nat.le_trans x.size h.size, fun g hg => (h.block g (Nat.lt_of_lt_of_le hg x.size) (fun hs => by have := hS g hs; omega)).trans (x.block g hg)⟩
theorem Ints.fr {k : IntKind} {A : Option Addr} {zs : List Int} (h : Ints a k A zs) (x : Fr S a b) (hS : ∀ ad, A = some ad → ¬ S ad.block) : Ints b k A zs := fun hn => by
  obtain ⟨ad, e, hb, hc⟩ := h hn
  refine ⟨ad, e, Nat.lt_of_lt_of_le hb x.size, fun j hj => ?_⟩
  rw [← hc j hj]
  exact World.cell?_of_block (by rw [add_block]; exact x.block _ hb (hS ad e))
end
/-- A block that is known whole. -/
def Blk (w : World) (g : Nat) (t : TypeId) (cs : List Value) : Prop := w.heap[g]? = some (.cells cs.toArray t (0, 0))
section
variable {w w' : World} {g : Nat} {t : TypeId} {cs : List Value} {S : Nat → Prop}
theorem Blk.lt (h : Blk w g t cs) : g < w.heap.size := (Array.getElem?_eq_some_iff.1 h).1
theorem Blk.cell (h : Blk w g t cs) (i : Nat) : w.cell? ⟨g, i, none⟩ = cs[i]? := by
  have := cell_of_row w g i cs.toArray t (0, 0) h
  simpa using this
theorem Blk.frozen (h : Blk w g t cs) (i : Nat) : w.frozen? ⟨g, i, none⟩ = false := by
  unfold Blk at h
  simp [World.frozen?, h]
theorem Blk.new (w : World) (t : TypeId) (cs : List Value) : Blk (w.alloc (.cells cs.toArray t)) w.heap.size t cs := heap_alloc_new w _
theorem Blk.fr (h : Blk w g t cs) (x : Fr S w w') (hS : ¬ S g) : Blk w' g t cs := (x.block g h.lt hS).trans h
theorem Blk.ext (h : Blk w g t cs) (x : Ext w w') : Blk w' g t cs := (x.block g h.lt).trans h
theorem Blk.set (h : Blk w g t cs) (i : Nat) (u : Value) : Blk (w.setCell ⟨g, i, none⟩ u) g t (cs.set i u) := by
  unfold Blk at h ⊢
  simp [World.setCell, Array.getElem?_modify, h]
theorem Blk.far (h : Blk w g t cs) {p : Addr} (hp : g ≠ p.block) (u : Value) : Blk (w.setCell p u) g t cs := (Below.heap_setCell w p u g hp).trans h
theorem Blk.ne_row {B n size : Nat} {e : TypeId} {k : IntKind} {v : Value} {zs : List Int} (h : Blk w g t cs) (hr : RowN w B e size k v n zs) (hne : e ≠ t) : v.ownBlock ≠ some g := by
  rcases hr.2 with ⟨rfl, _⟩ | ⟨g', cap, cur, rfl, _, hh, _⟩
  · simp [Value.ownBlock]
  · intro he
    have : g' = g := by simpa [Value.ownBlock] using he
    subst this
    unfold Blk at h
    rw [h] at hh
    injection hh with hh
    injection hh with _ h2
    exact hne h2.symm
theorem Blk.ne {g' : Nat} {t' : TypeId} {cs' : List Value} (h : Blk w g t cs) (h' : Blk w g' t' cs') (hne : t ≠ t') : g ≠ g' := by
  rintro rfl
  unfold Blk at h h'
  rw [h] at h'
  injection h' with h'
  injection h' with _ h2
  exact hne h2
end
section
variable {w w' : World} {B n size : Nat} {e : TypeId} {k : IntKind} {v : Value} {zs : List Int} {S : Nat → Prop}
theorem RowN.fr (h : RowN w B e size k v n zs) (x : Fr S w w') (hS : ∀ g, v.ownBlock = some g → ¬ S g) : RowN w' B e size k v n zs :=
  h.kept fun g hg => x.block g (World.ownsRow.lt h g hg).2 (hS g hg)
theorem Row.fr (h : Row w B e k v zs) (x : Fr S w w') (hS : ∀ g, v.ownBlock = some g → ¬ S g) : Row w' B e k v zs := (RowN.fr (RowN.of_row h) x hS).row
theorem Row.far (h : Row w B e k v zs) {p : Addr} (hp : v.ownBlock ≠ some p.block) (u : Value) : Row (w.setCell p u) B e k v zs :=
  h.fr (S := fun g => g = p.block) (Fr.setCell (S := fun g => g = p.block) (p := p) (Fr.refl _ w) (Or.inl rfl) u) (fun g hg e => hp (by rw [hg, e]))
theorem RowN.far (h : RowN w B e size k v n zs) {p : Addr} (hp : v.ownBlock ≠ some p.block) (u : Value) : RowN (w.setCell p u) B e size k v n zs :=
  h.fr (S := fun g => g = p.block) (Fr.setCell (S := fun g => g = p.block) (p := p) (Fr.refl _ w) (Or.inl rfl) u) (fun g hg e => hp (by rw [hg, e]))
/-- A word stored into a row. -/
theorem RowN.set {g c j : Nat} (h : RowN w B e size k (.slice (some ⟨g, 0, none⟩) n c) n zs) (z : Int) : RowN (w.setCell ⟨g, j, none⟩ (.int k z)) B e size k (.slice (some ⟨g, 0, none⟩) n c) n (zs.set j z) := by
  have h2 := (World.ownsRow.stored h j (.int k z)).1
  unfold RowN
  rw [List.map_set]
  exact h2
theorem RowN.cell {g c j : Nat} (h : RowN w B e size k (.slice (some ⟨g, 0, none⟩) n c) n zs) (hj : j < n * size) : w.cell? ⟨g, j, none⟩ = some (.int k (zs.getD j 0)) := by
  rw [World.ownsRow.cellAt h j hj]
  have hl := h.len
  simp [List.getD_eq_getElem?_getD, show j < zs.length from by omega]
theorem RowN.frozen {g c : Nat} (h : RowN w B e size k (.slice (some ⟨g, 0, none⟩) n c) n zs) (j : Nat) : w.frozen? ⟨g, j, none⟩ = false := World.ownsRow.frozenAt h j
theorem RowN.at_ (h : RowN w B e size k v n zs) (hn : 0 < n) : ∃ g c, v = .slice (some ⟨g, 0, none⟩) n c ∧ n ≤ c ∧ c ≤ maxLen ∧ B ≤ g ∧ g < w.heap.size := by
  rcases h.2 with ⟨hv, h0⟩ | ⟨g, cap, cur, hv, hg, hh, hnc, hcm, _⟩
  · omega
  · exact ⟨g, cap, hv, hnc, hcm, hg, (Array.getElem?_eq_some_iff.1 hh).1⟩
end
end Go.Proofs.YtolengkegjipaaaGreat

