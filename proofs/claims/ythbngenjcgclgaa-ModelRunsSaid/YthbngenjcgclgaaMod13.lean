/- Layer 8: a state of the call's own, what an operation turns, rows of results, operations that are read. Conditions: those that each theorem names. -/
import Derived.Test.YthbngenjcgclgaaMod12
import Derived.Test.YthbngenjcgclgaaMod3
namespace Go.Proofs.Ythbngenjcgclgaa
open Go.ChangeShapes Go.WideShapes Go.ChangeAt Go.RowKit
set_option linter.unusedVariables false
/-- A row of numbers in a block of the call's own, from some cell on. -/
def QRow (w : World) (B : Nat) (v : Value) (zs : List Int) : Prop :=
  (v = .slice none 0 0 ∧ zs = []) ∨ ∃ g o c cur, v = .slice (some ⟨g, o, none⟩) zs.length c ∧ B ≤ g ∧ w.heap[g]? = some (.cells cur 32 (0, 0)) ∧ zs.length ≤ c ∧ c ≤ maxLen ∧ o + c ≤ cur.size ∧ (cur.toList.drop o).take zs.length = zs.map (Value.int .u32)
/-- A block holds elements of a type. -/
def Typed (w : World) (B : Nat) (e : TypeId) (v : Value) : Prop := ∀ g, v.ownBlock = some g → B ≤ g ∧ g < w.heap.size ∧ ∃ cur, w.heap[g]? = some (.cells cur e (0, 0))
section
variable {w w' : World} {B : Nat} {e e' : TypeId} {v v' : Value} {zs : List Int} {g : Nat}
theorem lt_of_heap {o : Obj} (h : w.heap[g]? = some o) : g < w.heap.size := (Array.getElem?_eq_some_iff.1 h).1
theorem Typed.ne (h : Typed w B e v) (h' : Typed w B e' v') (hne : e ≠ e') : ∀ g, v.ownBlock = some g → v'.ownBlock ≠ some g := fun g hg hg' => by
  obtain ⟨_, _, c1, h1⟩ := h g hg
  obtain ⟨_, _, c2, h2⟩ := h' g hg'
  rw [h1] at h2
  injection h2 with h2
  injection h2 with _ h2
  exact hne h2
theorem Typed.ne_blk {cs : List Value} (h : Typed w B e v) (hb : Blk w g e' cs) (hne : e ≠ e') : v.ownBlock ≠ some g := fun hg => by
  obtain ⟨_, _, c1, h1⟩ := h g hg
  unfold Blk at hb
  rw [h1] at hb
  injection hb with h2
  injection h2 with _ h2
  exact hne h2
theorem typed_row {size n : Nat} {xs : List Value} (h : w.ownsRow B e size v n xs) : Typed w B e v := fun g hg => by
  rcases h.2 with ⟨rfl, _⟩ | ⟨g', cap, cur, rfl, hB, hh, _⟩
  · simp [Value.ownBlock] at hg
  · obtain rfl : g' = g := by simpa [Value.ownBlock] using hg
    exact ⟨hB, lt_of_heap hh, cur, hh⟩
theorem QRow.typed (h : QRow w B v zs) : Typed w B 32 v := fun g hg => by
  rcases h with ⟨rfl, _⟩ | ⟨g', o, c, cur, rfl, hB, hh, _⟩
  · simp [Value.ownBlock] at hg
  · obtain rfl : g' = g := by simpa [Value.ownBlock] using hg
    exact ⟨hB, lt_of_heap hh, cur, hh⟩
theorem QRow.kept (h : QRow w B v zs) (hk : ∀ g, v.ownBlock = some g → w'.heap[g]? = w.heap[g]?) : QRow w' B v zs := by
  rcases h with h | ⟨g, o, c, cur, rfl, hB, hh, r⟩
  · exact Or.inl h
  · exact Or.inr ⟨g, o, c, cur, rfl, hB, by rw [hk g rfl]; exact hh, r⟩
theorem QRow.mono {B' : Nat} (h : QRow w B v zs) (hB : B' ≤ B) : QRow w B' v zs := by
  rcases h with h | ⟨g, o, c, cur, rfl, h1, r⟩
  · exact Or.inl h
  · exact Or.inr ⟨g, o, c, cur, rfl, Nat.le_trans hB h1, r⟩
theorem QRow.nil (w : World) (B : Nat) : QRow w B (.slice none 0 0) [] := Or.inl ⟨rfl, rfl⟩
theorem QRow.of_row (h : Row w B 32 .u32 v zs) : QRow w B v zs := by
  rcases h.2 with ⟨rfl, h0⟩ | ⟨g, cap, cur, rfl, hB, hh, hnc, hcm, hcs, ht⟩
  · exact Or.inl ⟨rfl, List.length_eq_zero_iff.1 h0⟩
  · exact Or.inr ⟨g, 0, cap, cur, rfl, hB, hh, hnc, hcm, by omega, by simpa using ht⟩
theorem add_cell (g o j : Nat) : (⟨g, o, none⟩ : Addr).add j = ⟨g, o + j, none⟩ := by unfold Addr.add; split <;> simp_all
theorem QRow.form (h : QRow w B v zs) : ∃ A c, v = .slice A zs.length c ∧ zs.length ≤ c ∧ c ≤ maxLen ∧ Ints w .u32 A zs := by
  rcases h with ⟨rfl, rfl⟩ | ⟨g, o, c, cur, rfl, hB, hh, hnc, hcm, hcs, ht⟩
  · exact ⟨none, 0, rfl, Nat.le_refl _, Nat.zero_le _, fun h0 => absurd h0 (by simp)⟩
  · refine ⟨_, c, rfl, hnc, hcm, fun h0 => ⟨_, rfl, lt_of_heap hh, fun j hj => ?_⟩⟩
    rw [add_cell]
    have h1 : w.cell? ⟨g, o + j, none⟩ = cur[o + j]? := cell_of_row w g (o + j) cur 32 (0, 0) hh
    have h2 := congrArg (fun l => l[j]?) ht
    simp only [List.getElem?_take, if_pos hj, List.getElem?_drop, List.getElem?_map] at h2
    rw [h1, ← Array.getElem?_toList, h2]
    simp [List.getD_eq_getElem?_getD, hj]
end
/-- The three parts of a state of the call's own. -/
structure Parts (w : World) (B : Nat) (qv sv mv : Value) (st : Sta) : Prop where
  q : QRow w B qv st.q
  s : Row w B 32 .u32 sv st.s
  m : PRow w B mv st.m
  qs : ∀ g, qv.ownBlock = some g → sv.ownBlock ≠ some g
structure Own (w : World) (B gs : Nat) (qv sv mv : Value) (st : Sta) : Prop where
  blk : Blk w gs 25 [qv, sv, mv]
  low : B ≤ gs
  parts : Parts w B qv sv mv st
section
variable {w w' W : World} {B gs : Nat} {qv sv mv : Value} {st : Sta}
theorem Parts.kept (h : Parts w B qv sv mv st) (hk : ∀ g, qv.ownBlock = some g ∨ sv.ownBlock = some g ∨ mv.ownBlock = some g → w'.heap[g]? = w.heap[g]?) : Parts w' B qv sv mv st :=
  ⟨h.q.kept fun g hg => hk g (Or.inl hg), RowN.row (RowN.kept (RowN.of_row h.s) fun g hg => hk g (Or.inr (Or.inl hg))), RowN.kept h.m fun g hg => hk g (Or.inr (Or.inr hg)), h.qs⟩
theorem Parts.mono {B' : Nat} (h : Parts w B qv sv mv st) (hB : B' ≤ B) : Parts w B' qv sv mv st := ⟨h.q.mono hB, h.s.mono hB, RowN.mono h.m hB, h.qs⟩
/-- A block is none of those of a state's parts. -/
def Apart (qv sv mv : Value) (g : Nat) : Prop := qv.ownBlock ≠ some g ∧ sv.ownBlock ≠ some g ∧ mv.ownBlock ≠ some g
theorem Parts.apart_of (h : Parts w B qv sv mv st) {g : Nat} {e : TypeId} {cs : List Value} (hb : Blk w g e cs) (h1 : 32 ≠ e) (h2 : 46 ≠ e) : Apart qv sv mv g :=
  ⟨h.q.typed.ne_blk hb h1, (typed_row h.s).ne_blk hb h1, (typed_row h.m).ne_blk hb h2⟩
theorem Parts.far (h : Parts w B qv sv mv st) {g : Nat} (hg : w.heap.size ≤ g) : Apart qv sv mv g :=
  ⟨fun e => by have := (h.q.typed g e).2.1; omega, fun e => by have := (typed_row h.s g e).2.1; omega, fun e => by have := (typed_row h.m g e).2.1; omega⟩
theorem Parts.ext (h : Parts w B qv sv mv st) (x : Ext w w') : Parts w' B qv sv mv st := h.kept fun g hg => x.block g (by
  rcases hg with hg | hg | hg
  · exact (h.q.typed g hg).2.1
  · exact (typed_row h.s g hg).2.1
  · exact (typed_row h.m g hg).2.1)
theorem Own.ext (h : Own w B gs qv sv mv st) (x : Ext w w') : Own w' B gs qv sv mv st := ⟨h.blk.ext x, h.low, h.parts.ext x⟩
theorem Parts.lt (h : Parts w B qv sv mv st) : ∀ g, qv.ownBlock = some g ∨ sv.ownBlock = some g ∨ mv.ownBlock = some g → B ≤ g ∧ g < w.heap.size := fun g hg => by
  rcases hg with hg | hg | hg
  · exact ⟨(h.q.typed g hg).1, (h.q.typed g hg).2.1⟩
  · exact ⟨(typed_row h.s g hg).1, (typed_row h.s g hg).2.1⟩
  · exact ⟨(typed_row h.m g hg).1, (typed_row h.m g hg).2.1⟩
end
/-- What an operation has done to a state of the call's own at gs. -/
structure Did (w0 w : World) (gs : Nat) (qv sv mv : Value) (st' : Sta) (w' : World) (qv' sv' mv' : Value) : Prop where
  own : Own w' w0.heap.size gs qv' sv' mv' st'
  ext : Ext w0 w'
  fr : ∀ g, g < w.heap.size → g ≠ gs → Apart qv sv mv g → w'.heap[g]? = w.heap[g]? ∧ Apart qv' sv' mv' g
  size : w.heap.size ≤ w'.heap.size
def DidTo (w0 w : World) (gs : Nat) (qv sv mv : Value) (st' : Sta) (w' : World) : Prop := ∃ qv' sv' mv', Did w0 w gs qv sv mv st' w' qv' sv' mv'
/-- The map alone was turned. -/
theorem did_map {w0 w w' : World} {gs : Nat} {qv sv mv : Value} {st : Sta} {ps' : List Pr} (h : Own w w0.heap.size gs qv sv mv st) (k : MapTo w0 w gs qv sv mv ps' w') : DidTo w0 w gs qv sv mv ⟨st.q, st.s, ps'⟩ w' := by
  obtain ⟨mv', k⟩ := k
  have tq := h.parts.q.typed
  have ts := typed_row h.parts.s
  have tm := typed_row h.parts.m
  have hb := h.blk
  have hq : ∀ g, qv.ownBlock = some g → w'.heap[g]? = w.heap[g]? := fun g hg => (k.fr g (tq g hg).2.1 (fun e => tq.ne_blk hb (by decide) (by rw [← e]; exact hg)) (fun e => tq.ne tm (by decide) g hg e)).1
  have hs : ∀ g, sv.ownBlock = some g → w'.heap[g]? = w.heap[g]? := fun g hg => (k.fr g (ts g hg).2.1 (fun e => ts.ne_blk hb (by decide) (by rw [← e]; exact hg)) (fun e => ts.ne tm (by decide) g hg e)).1
  refine ⟨qv, sv, mv', ⟨k.blk, h.low, h.parts.q.kept hq, RowN.row (RowN.kept (RowN.of_row h.parts.s) hs), k.row, h.parts.qs⟩, k.ext, fun g hg hn ha => ?_, k.size⟩
  obtain ⟨k1, k2⟩ := k.fr g hg hn ha.2.2
  exact ⟨k1, ha.1, ha.2.1, k2⟩
abbrev Rs := Int × Int
def flatR : List Rs → List Value
  | [] => []
  | p :: l => .int .i64 p.1 :: .int .u32 p.2 :: flatR l
theorem flatR_len : ∀ l : List Rs, (flatR l).length = l.length * 2
  | [] => rfl
  | p :: l => by simp [flatR, flatR_len l]; omega
theorem flatR_append : ∀ l m : List Rs, flatR (l ++ m) = flatR l ++ flatR m
  | [], _ => rfl
  | p :: l, m => by simp [flatR, flatR_append l m]
theorem flatR_get : ∀ (l : List Rs) (i : Nat), i < l.length → (flatR l)[i * 2]? = some (.int .i64 (l.getD i (0, 0)).1) ∧ (flatR l)[i * 2 + 1]? = some (.int .u32 (l.getD i (0, 0)).2)
  | [], i, h => absurd h (by simp)
  | p :: l, 0, _ => by simp [flatR]
  | p :: l, i + 1, h => by
    have h := flatR_get l i (by simpa using h)
    rw [show (i + 1) * 2 = i * 2 + 1 + 1 by omega]
    simpa [flatR] using h
/-- A row of results of the call's own. -/
def RRow (w : World) (B : Nat) (v : Value) (rs : List Rs) : Prop := w.ownsRow B 34 2 v rs.length (flatR rs)
/-- Results, read at an address. -/
def RAt (w : World) (A : Option Addr) (ps : List Rs) : Prop := 0 < ps.length → ∃ g, A = some ⟨g, 0, none⟩ ∧ g < w.heap.size ∧ ∀ i, i < ps.length → w.cell? ⟨g, i * 2, none⟩ = some (.int .i64 (ps.getD i (0, 0)).1) ∧ w.cell? ⟨g, i * 2 + 1, none⟩ = some (.int .u32 (ps.getD i (0, 0)).2)
theorem RAt.ext {w w' : World} {A : Option Addr} {ps : List Rs} (h : RAt w A ps) (x : Ext w w') : RAt w' A ps := fun h0 => by
  obtain ⟨g, rfl, hb, hc⟩ := h h0
  refine ⟨g, rfl, Nat.lt_of_lt_of_le hb x.size, fun i hi => ?_⟩
  obtain ⟨c0, c1⟩ := hc i hi
  exact ⟨(World.cell?_of_block (x.block g hb)).trans c0, (World.cell?_of_block (x.block g hb)).trans c1⟩
theorem RRow.form {w : World} {B : Nat} {v : Value} {rs : List Rs} (h : RRow w B v rs) : ∃ A c, v = .slice A rs.length c ∧ rs.length ≤ c ∧ c ≤ maxLen ∧ RAt w A rs := by
  have hl := h.1
  rcases h.2 with ⟨rfl, hn⟩ | ⟨g, cap, cur, rfl, hB, hh, hnc, hcm, hcs, ht⟩
  · exact ⟨none, 0, by rw [hn], by omega, Nat.zero_le _, fun h0 => absurd h0 (by omega)⟩
  · refine ⟨_, cap, rfl, hnc, hcm, fun h0 => ⟨g, rfl, lt_of_heap hh, fun i hi => ?_⟩⟩
    have hc : ∀ j, j < rs.length * 2 → w.cell? ⟨g, j, none⟩ = (flatR rs)[j]? := fun j hj => by
      have h1 : w.cell? ⟨g, j, none⟩ = cur[j]? := cell_of_row w g j cur 34 (0, 0) hh
      rw [h1, ← ht, List.getElem?_take, if_pos hj, Array.getElem?_toList]
    obtain ⟨g1, g2⟩ := flatR_get rs i hi
    rw [hc _ (by omega), hc _ (by omega)]
    exact ⟨g1, g2⟩
theorem RRow.made (W : World) (n : Nat) (hn : n ≤ 1000000000) : RRow (W.alloc (.cells (madeCells #[.int .i64 0, .int .u32 0] (n * 2)) 34)) W.heap.size (.slice (some ⟨W.heap.size, 0, none⟩) 0 n) [] :=
  ⟨rfl, Or.inr ⟨W.heap.size, n, _, rfl, Nat.le_refl _, heap_alloc_new W _, Nat.zero_le _, by unfold maxLen; omega, size_madeCells _ _, by simp [flatR]⟩⟩
theorem make_res (n : Nat) (hn : n ≤ 1000000000) (W : World) :
    (Instr.makeSlice 29 (.int .i64 0) (.int .i64 (n : Int))).run Try.prog W = .ok (.slice (some ⟨W.heap.size, 0, none⟩) 0 n) (W.alloc (.cells (madeCells #[.int .i64 0, .int .u32 0] (n * 2)) 34)) := by
  obtain ⟨i, hi, hz0, hz1, hz2⟩ := info_parts res_info
  have h := run_makeInts (k := .i64) Try.underlying29 hi hz0 hz1 0 n (Nat.zero_le _) (by rw [hz2]; omega) (by unfold maxLen; omega) W
  exact h
/-- append(s, r), of a row of results of the call's own. -/
theorem wpList_appR {ops : Array Oper} {rest : List Oper} {o : Oper} {a : Act} {Q : Exit → Act → World → Prop} (hgd : o.guard = none) (s x : Operand) (t : TypeId)
    (ho : o.op = .call { callee := .builtin .append, args := #[s, x], argTypes := #[t, t] }) (ht : Try.prog.underlying t = some (.slice 34))
    (w0 W : World) (v : Value) (rs : List Rs) (r0 r1 : Int) (hs : a.eval s = v) (hrow : RRow W w0.heap.size v rs) (ext : Ext w0 W)
    (hx : a.eval x = .slice (some ⟨W.heap.size, 0, none⟩) 1 1) (hlen : rs.length < 1000000000)
    (h : ∀ v' w', RRow w' w0.heap.size v' (rs ++ [(r0, r1)]) → Ext w0 w' → (∀ g, g < W.heap.size → v.ownBlock ≠ some g → w'.heap[g]? = W.heap[g]? ∧ v'.ownBlock ≠ some g) → W.heap.size ≤ w'.heap.size → wpList Try.prog ops Q rest (a.put o.dst v') w') :
    wpList Try.prog ops Q (o :: rest) a (W.alloc (.cells #[.int .i64 r0, .int .u32 r1] 34)) := by
  obtain ⟨i, hi, hz0, hz1, hz2⟩ := info_parts res_info
  refine wpList_append_own_at _ hgd s x t ho w0.heap.size 34 i (.agg #[.int .i64 0, .int .u32 0]) 2 16 ht hi hz0 hz1 hz2 rfl (by decide) v rs.length (flatR rs) hs (hrow.alloc _) ⟨W.heap.size, 0, none⟩ 1 1 [.int .i64 r0, .int .u32 r1] hx rfl ?_ ?_ ?_ ?_ ?_ ?_
  · intro j u hj
    have hb := Blk.new W 34 [.int .i64 r0, .int .u32 r1]
    rw [at0, hb.cell j]
    exact hj
  · intro u hu
    simp at hu
    rcases hu with rfl | rfl <;> rfl
  · unfold maxLen; omega
  · omega
  · have := ext.size; simp; omega
  · intro v' w' hown hg _ hat
    have e1 : flatR (rs ++ [(r0, r1)]) = flatR rs ++ [.int .i64 r0, .int .u32 r1] := by rw [flatR_append]; rfl
    refine h v' w' ?_ ?_ ?_ (by have := hg.size; simp at this; omega)
    · unfold RRow
      rw [e1, List.length_append]
      exact hown
    · have hlt := World.ownsRow.lt hrow
      exact Ext.of ((Below.alloc ext.below ext.size _).grown hg (by have := ext.size; simp; omega) (fun q hq => (hlt q hq).1))
    · intro g hgl hne
      refine ⟨(hg.block g (by simp; omega) (fun e => hne e.symm)).trans (Below.heap_alloc _ _ _ hgl), ?_⟩
      rcases hat with e | e
      · rw [e]; exact hne
      · rw [e]
        simp
        omega
abbrev O3 := Int × Int × Int
/-- Operations, read at an address. -/
def OAt (w : World) (A : Option Addr) (os : List O3) : Prop := 0 < os.length → ∃ ad, A = some ad ∧ ad.block < w.heap.size ∧ ∀ i, i < os.length → w.cell? (ad.add (i * 3)) = some (.int .i64 (os.getD i (0, 0, 0)).1) ∧ w.cell? ⟨(ad.add (i * 3)).block, (ad.add (i * 3)).off + 1, none⟩ = some (.int .u32 (os.getD i (0, 0, 0)).2.1) ∧ w.cell? ⟨(ad.add (i * 3)).block, (ad.add (i * 3)).off + 2, none⟩ = some (.int .u32 (os.getD i (0, 0, 0)).2.2)
theorem OAt.ext {w w' : World} {A : Option Addr} {os : List O3} (h : OAt w A os) (x : Ext w w') : OAt w' A os := fun h0 => by
  obtain ⟨ad, rfl, hb, hc⟩ := h h0
  refine ⟨ad, rfl, Nat.lt_of_lt_of_le hb x.size, fun i hi => ?_⟩
  obtain ⟨c0, c1, c2⟩ := hc i hi
  have e' : w'.heap[(ad.add (i * 3)).block]? = w.heap[(ad.add (i * 3)).block]? := by rw [add_block]; exact x.block ad.block hb
  have kk : ∀ q : Addr, q.block = (ad.add (i * 3)).block → w'.cell? q = w.cell? q := fun q hq => World.cell?_of_block (by rw [hq]; exact e')
  exact ⟨(by refine Eq.trans (kk _ ?_) c0; rfl), (by refine Eq.trans (kk _ ?_) c1; rfl), (by refine Eq.trans (kk _ ?_) c2; rfl)⟩
end Go.Proofs.Ythbngenjcgclgaa
