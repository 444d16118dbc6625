/- The document's device: its words are laid. Conditions: those that each theorem names. -/
import Derived.Test.YtolengkegjipaaaGreatKActs
import Derived.Deep.AppendLies
import Derived.Deep.RegionHeld3
import Derived.Deep.RegionLaw
import Derived.Deep.DeepCutAuto
import Derived.IntWalk
import Derived.Test.YtolengkegjipaaaGreatKPmB
namespace Go.Proofs.YtolengkegjipaaaGreat
open Go.ChangeShapes Go.WideShapes Go.ChangeAt Go.RowKit
set_option linter.unusedVariables false
/-- append(s, z), of a row of the call's own, inside a region whose order is open: of the old blocks just the row's own may turn. -/
theorem step_pushOff {P : Program} {ops : Array Oper} {o : Oper} {a : Act} {K : Act → World → Prop} {Q : Exit → Act → World → Prop} {E : Prop} (hgd : o.guard = none) (s x : Operand) (t : TypeId)
    (ho : o.op = .call { callee := .builtin .append, args := #[s, x], argTypes := #[t, t] })
    (e : TypeId) (k : IntKind) (bytes : Nat) (hinfo : (P.info? e).map (fun i => (i.zero, i.size, i.bytes)) = some (some (.int k 0), 1, bytes)) (hby : bytes ≤ 8) (ht : P.underlying t = some (.slice e))
    (w0 W : World) (v : Value) (zs : List Int) (z : Int) (hs : a.eval s = v) (hrow : Row W w0.heap.size e k v zs) (ext : Ext w0 W)
    (hx : a.eval x = .slice (some ⟨W.heap.size, 0, none⟩) 1 1) (hlen : zs.length < 1000000000)
    (h : ∀ g cap w', Row w' w0.heap.size e k (.slice (some ⟨g, 0, none⟩) (zs.length + 1) cap) (zs ++ [z]) → Ext w0 w' → Fr (fun b => v.ownBlock = some b) W w' → (v.ownBlock = some g ∨ W.heap.size ≤ g) → K (a.put o.dst (.slice (some ⟨g, 0, none⟩) (zs.length + 1) cap)) w') :
    if Region.wanted o (yielded ops a.tmps) = true then Oper.wp P o a (W.alloc (.cells #[.int k z] e)).drew K Q else E := by
  obtain ⟨i, hi, hz0, hz1, hz2⟩ := info_parts hinfo
  refine step_append_lies _ hgd s x t ho w0.heap.size e i (.int k 0) 1 bytes ht hi hz0 hz1 hz2 rfl (by decide) v zs.length (zs.map (Value.int k)) hs ((hrow.alloc _).drew) ⟨W.heap.size, 0, none⟩ 1 1 [.int k z] hx rfl ?_ ?_ (by omega) ?_ ?_ ?_ _ rfl ?_
  · intro j u hj
    match j, hj with
    | 0, hj =>
      simp at hj
      subst hj
      rw [at0]
      show (W.alloc (.cells #[.int k z] e)).cell? ⟨W.heap.size, 0, none⟩ = _
      rw [World.cell?_alloc_at _ _ _ _ rfl]; rfl
  · intro u hu; simp at hu; subst hu; rfl
  · unfold maxLen; omega
  · have : (zs.length + 1) * bytes ≤ 1000000000 * 8 := Nat.mul_le_mul (by omega) hby
    omega
  · have := ext.size; simp; omega
  · intro g cap w' hown hg hat _
    have hlt := hrow.lt
    refine h g cap w' ?_ ?_ ?_ ?_
    · unfold Row
      rw [List.map_append, List.length_append]
      exact hown
    · exact Ext.of (((Below.alloc ext.below ext.size _).drew).grown hg (by have := ext.size; simp; omega) (fun q hq => (hlt q hq).1))
    · have hsz := hg.size
      simp at hsz
      refine ⟨hg.os, hg.tape, hg.output, by omega, fun b hb hne => (hg.block b (by simp; omega) (fun e => hne e.symm)).trans (Below.heap_alloc _ _ _ hb)⟩
    · rcases hat with h | h
      · exact Or.inl h
      · right
        rw [h]
        simp
/-- A row of values of one cell each. -/
def RowE (w : World) (B : Nat) (e : TypeId) (v : Value) (us : List Value) : Prop := w.ownsRow B e 1 v us.length us
theorem RowE.nil (w : World) (B : Nat) (e : TypeId) : RowE w B e (.slice none 0 0) [] := World.ownsRow_nil w B e 1
theorem RowE.kept {w w' : World} {B : Nat} {e : TypeId} {v : Value} {us : List Value} (h : RowE w B e v us) (hk : ∀ g, v.ownBlock = some g → w'.heap[g]? = w.heap[g]?) : RowE w' B e v us := by
  refine ⟨h.1, ?_⟩
  rcases h.2 with h2 | ⟨g, cap, cur, hv, hg, hh, r⟩
  · exact Or.inl h2
  · refine Or.inr ⟨g, cap, cur, hv, hg, ?_, r⟩
    rw [hk g (by rw [hv]; rfl)]; exact hh
theorem RowE.lt {w : World} {B : Nat} {e : TypeId} {v : Value} {us : List Value} (h : RowE w B e v us) : ∀ g, v.ownBlock = some g → B ≤ g ∧ g < w.heap.size := fun g hg => World.ownsRow.lt h g hg
theorem RowE.fr {w w' : World} {B : Nat} {e : TypeId} {v : Value} {us : List Value} {S : Nat → Prop} (h : RowE w B e v us) (x : Fr S w w') (hS : ∀ g, v.ownBlock = some g → ¬ S g) : RowE w' B e v us :=
  h.kept fun g hg => x.block g (h.lt g hg).2 (hS g hg)
theorem row_info : (Tryz.prog.info? 26).map (fun i => (i.zero, i.size, i.bytes)) = some (some (.slice none 0 0), 1, 24) := by kernel_rfl
theorem flag_info : (Tryz.prog.info? 4).map (fun i => (i.zero, i.size, i.bytes)) = some (some (.bool false), 1, 1) := by kernel_rfl
theorem info_one {P : Program} {e : TypeId} {z : Value} {bytes : Nat} (h : (P.info? e).map (fun i => (i.zero, i.size, i.bytes)) = some (some z, 1, bytes)) : ∃ i, P.info? e = some i ∧ i.zero = some z ∧ i.size = 1 ∧ i.bytes = bytes := by
  cases hi : P.info? e with
  | none => rw [hi] at h; cases h
  | some i =>
    rw [hi] at h
    simp at h
    exact ⟨i, rfl, h.1, h.2.1, h.2.2⟩
theorem make_flags (n : Nat) (hc : n ≤ 1000000000) (W : World) :
    (Instr.makeSlice 26 (.int .i64 (n : Int)) (.int .i64 (n : Int))).run Tryz.prog W = .ok (.slice (some ⟨W.heap.size, 0, none⟩) n n) (W.alloc (.cells (madeCells #[.bool false] n) 4)) := by
  obtain ⟨i, hi, hz0, hz1, hz2⟩ := info_one flag_info
  have h := run_makeInts (k := .u8) Tryz.underlying26 hi hz0 hz1 n n (Nat.le_refl _) (by rw [hz2]; omega) (by unfold maxLen; omega) W
  rw [Nat.mul_one] at h
  exact h
theorem made_flags (n : Nat) : madeCells #[.bool false] n = (List.replicate n (.bool false)).toArray := by
  apply Array.ext
  · simp [madeCells]
  · intro i h1 h2
    simp [madeCells, Nat.mod_one]
theorem step_pushE {P : Program} {ops : Array Oper} {o : Oper} {a : Act} {K : Act → World → Prop} {Q : Exit → Act → World → Prop} {E : Prop} (hgd : o.guard = none) (s x : Operand) (t : TypeId)
    (ho : o.op = .call { callee := .builtin .append, args := #[s, x], argTypes := #[t, t] })
    (e : TypeId) (z0 : Value) (bytes : Nat) (hinfo : (P.info? e).map (fun i => (i.zero, i.size, i.bytes)) = some (some z0, 1, bytes)) (hz0 : z0.cells.size = 1) (hby : bytes ≤ 64) (ht : P.underlying t = some (.slice e))
    (w0 W : World) (v : Value) (us : List Value) (u : Value) (hu : u.oneCell' = true) (hs : a.eval s = v) (hrow : RowE W w0.heap.size e v us) (ext : Ext w0 W)
    (hx : a.eval x = .slice (some ⟨W.heap.size, 0, none⟩) 1 1) (hlen : us.length < 1000000)
    (h : ∀ g cap w', RowE w' w0.heap.size e (.slice (some ⟨g, 0, none⟩) (us.length + 1) cap) (us ++ [u]) → Ext w0 w' → Fr (fun b => v.ownBlock = some b) W w' → (v.ownBlock = some g ∨ W.heap.size ≤ g) → K (a.put o.dst (.slice (some ⟨g, 0, none⟩) (us.length + 1) cap)) w') :
    if Region.wanted o (yielded ops a.tmps) = true then Oper.wp P o a (W.alloc (.cells #[u] e)).drew K Q else E := by
  obtain ⟨i, hi, hz1, hz2, hz3⟩ := info_one hinfo
  refine step_append_lies _ hgd s x t ho w0.heap.size e i z0 1 bytes ht hi hz1 hz2 hz3 hz0 (by decide) v us.length us hs ((World.ownsRow.alloc hrow _).drew) ⟨W.heap.size, 0, none⟩ 1 1 [u] hx rfl ?_ ?_ (by omega) ?_ ?_ ?_ _ rfl ?_
  · intro j u' hj
    match j, hj with
    | 0, hj =>
      simp at hj
      subst hj
      rw [at0]
      show (W.alloc (.cells #[u] e)).cell? ⟨W.heap.size, 0, none⟩ = _
      rw [World.cell?_alloc_at _ _ _ _ rfl]; rfl
  · intro u' hu'; simp at hu'; subst hu'; exact hu
  · unfold maxLen; omega
  · have : (us.length + 1) * bytes ≤ 1000000 * 64 := Nat.mul_le_mul (by omega) hby
    omega
  · have := ext.size; simp; omega
  · intro g cap w' hown hg hat _
    have hlt := hrow.lt
    refine h g cap w' ?_ ?_ ?_ ?_
    · unfold RowE
      rw [List.length_append]
      exact hown
    · exact Ext.of (((Below.alloc ext.below ext.size _).drew).grown hg (by have := ext.size; simp; omega) (fun q hq => (hlt q hq).1))
    · have hsz := hg.size
      simp at hsz
      refine ⟨hg.os, hg.tape, hg.output, by omega, fun b hb hne => (hg.block b (by simp; omega) (fun e => hne e.symm)).trans (Below.heap_alloc _ _ _ hb)⟩
    · rcases hat with h | h
      · exact Or.inl h
      · right
        rw [h]
        simp
/-- The document's device while its words are laid. -/
structure Lays (w0 w : World) (g : Nat) (vk vs : Value) (k1 k2 : List Int) : Prop where
  dev : Blk w g 117 [vk, vs, .slice none 0 0, .slice none 0 0]
  kept : Row w w0.heap.size 53 .u64 vk k1
  seen : Row w w0.heap.size 53 .u64 vs k2
  ext : Ext w0 w
  gk : vk.ownBlock ≠ some g
  gs : vs.ownBlock ≠ some g
  ks : ∀ b, vk.ownBlock = some b → vs.ownBlock ≠ some b
  g0 : w0.heap.size ≤ g
end Go.Proofs.YtolengkegjipaaaGreat


/- The document's device: Open. Conditions: those that each theorem names. -/
namespace Go.Proofs.YtolengkegjipaaaGreat
open Go.ChangeShapes Go.WideShapes Go.ChangeAt Go.RowKit
set_option linter.unusedVariables false
/-- Where the document's device lies. -/
structure RefB where
  g : Nat
  vk : Value
  vs : Value
  gw : Nat
  vf : Value
  rows : List Nat
def RefB.foot (R : RefB) (b : Nat) : Prop := b = R.g ∨ R.vk.ownBlock = some b ∨ R.vs.ownBlock = some b ∨ b = R.gw ∨ R.vf.ownBlock = some b ∨ b ∈ R.rows
def RefB.ptr (R : RefB) : Value := .pointer (some ⟨R.g, 0, none⟩)
def flags (n : Nat) (f : Nat → Bool) : List Value := (List.range n).map fun p => .bool (f p)
structure IsRef (B : Nat) (w : World) (R : RefB) (n : Nat) (kept seen writes : List Int) (fl : Nat → Nat → Bool) : Prop where
  blk : Blk w R.g 117 [R.vk, R.vs, .slice (some ⟨R.gw, 0, none⟩) n n, R.vf]
  kept : Row w B 53 .u64 R.vk kept
  seen : Row w B 53 .u64 R.vs seen
  writes : Row w B 3 .i64 (.slice (some ⟨R.gw, 0, none⟩) n n) writes
  flr : RowE w B 26 R.vf (R.rows.map fun b => .slice (some ⟨b, 0, none⟩) n n)
  row : ∀ t, t < R.rows.length → Blk w (R.rows.getD t 0) 4 (flags n (fl t))
  nd : R.rows.Nodup
  ks : ∀ b, R.vk.ownBlock = some b → R.vs.ownBlock ≠ some b
  bg : B ≤ R.g
  br : ∀ b ∈ R.rows, B ≤ b
def RefNew (w : World) (T m : Nat) (zs : List Int) (e : Ending) (w' : World) : Prop := ∃ R : RefB, e = .returned R.ptr ∧ R.rows.length = T ∧ IsRef w.heap.size w' R m zs zs (List.replicate m 0) (fun _ _ => false) ∧ Ext w w'
theorem flags_no (n : Nat) : flags n (fun _ => false) = List.replicate n (.bool false) := by
  unfold flags
  apply List.ext_getElem
  · simp
  · intro i h1 h2; simp
theorem RowE.blk {w : World} {B g : Nat} {e t : TypeId} {v : Value} {us cs : List Value} (h : RowE w B e v us) (hb : Blk w g t cs) (hne : e ≠ t) : v.ownBlock ≠ some g := by
  rcases h.2 with ⟨rfl, _⟩ | ⟨g', cap, cur, rfl, _, hh, _⟩
  · simp [Value.ownBlock]
  · intro he
    have : g' = g := by simpa [Value.ownBlock] using he
    subst this
    unfold Blk at hb
    rw [hb] at hh
    injection hh with hh
    injection hh with _ h2
    exact hne h2.symm
theorem Row.blk {w : World} {B g : Nat} {e t : TypeId} {k : IntKind} {v : Value} {zs : List Int} {cs : List Value} (h : Row w B e k v zs) (hb : Blk w g t cs) (hne : e ≠ t) : v.ownBlock ≠ some g := hb.ne_row (RowN.of_row h) hne
theorem Row.row {w : World} {B B' : Nat} {e e' : TypeId} {k : IntKind} {v v' : Value} {zs : List Int} {us : List Value} (h : Row w B e k v zs) (h' : RowE w B' e' v' us) (hne : e ≠ e') : ∀ g, v.ownBlock = some g → v'.ownBlock ≠ some g := by
  intro g hg hg'
  rcases h.2 with ⟨rfl, _⟩ | ⟨g1, cap, cur, rfl, _, hh, _⟩
  · cases hg
  rcases h'.2 with ⟨rfl, _⟩ | ⟨g2, cap', cur', rfl, _, hh', _⟩
  · cases hg'
  have e1 : g1 = g := by simpa [Value.ownBlock] using hg
  have e2 : g2 = g := by simpa [Value.ownBlock] using hg'
  subst e1 e2
  rw [hh] at hh'
  injection hh' with hh'
  injection hh' with _ h2
  exact hne h2
theorem Row.row2 {w : World} {B B' : Nat} {e e' : TypeId} {k k' : IntKind} {v v' : Value} {zs zs' : List Int} (h : Row w B e k v zs) (h' : Row w B' e' k' v' zs') (hne : e ≠ e') : ∀ g, v.ownBlock = some g → v'.ownBlock ≠ some g :=
  Row.row h (us := zs'.map (Value.int k')) (by unfold RowE; rw [List.length_map]; exact h') hne
theorem Lays.done {w0 w : World} {g : Nat} {vk vs : Value} {zs : List Int} (hL : Lays w0 w g vk vs zs zs) (m : Nat) (hm : m ≤ 1000000) :
    IsRef w0.heap.size ((w.setCell ⟨g, 2, none⟩ (.slice (some ⟨w.heap.size, 0, none⟩) m m)).alloc (.cells (madeCells #[.int .i64 0] m) 3)) ⟨g, vk, vs, w.heap.size, .slice none 0 0, []⟩ m zs zs (List.replicate m 0) (fun _ _ => false) ∧
      Ext w0 ((w.setCell ⟨g, 2, none⟩ (.slice (some ⟨w.heap.size, 0, none⟩) m m)).alloc (.cells (madeCells #[.int .i64 0] m) 3)) := by
  have x := (Ext.refl (w.setCell ⟨g, 2, none⟩ (.slice (some ⟨w.heap.size, 0, none⟩) m m))).alloc (.cells (madeCells #[.int .i64 0] m) 3)
  have hr := Row.made (w.setCell ⟨g, 2, none⟩ (.slice (some ⟨w.heap.size, 0, none⟩) m m)) 3 m m .i64 (Nat.le_refl _) (by omega)
  rw [Nat.mul_one] at hr
  have hsz : (w.setCell ⟨g, 2, none⟩ (.slice (some ⟨w.heap.size, 0, none⟩) m m)).heap.size = w.heap.size := by simp [World.setCell]
  rw [hsz] at hr
  exact ⟨⟨(hL.dev.set 2 _).ext x, (hL.kept.far (p := ⟨g, 2, none⟩) hL.gk _).ext x, (hL.seen.far (p := ⟨g, 2, none⟩) hL.gs _).ext x, hr.mono hL.ext.size, RowE.nil _ _ _, fun t ht => absurd ht (by simp), List.nodup_nil, hL.ks, hL.g0, fun b hb => absurd hb (by simp)⟩, (hL.ext.setCell hL.g0 _).trans x⟩
theorem IsRef.push {B n : Nat} {wr w' : World} {R : RefB} {kept seen writes : List Int} {v' : Value} {g' : Nat} (h : IsRef B wr R n kept seen writes (fun _ _ => false)) (hB : B ≤ wr.heap.size) (ev : v'.ownBlock = some g')
    (hr : RowE w' B 26 v' ((R.rows.map fun b => .slice (some ⟨b, 0, none⟩) n n) ++ [.slice (some ⟨wr.heap.size, 0, none⟩) n n]))
    (f : Fr (fun b => R.vf.ownBlock = some b) (wr.alloc (.cells (madeCells #[.bool false] n) 4)) w') (ho : R.vf.ownBlock = some g' ∨ (wr.alloc (.cells (madeCells #[.bool false] n) 4)).heap.size ≤ g') :
    IsRef B (w'.setCell ⟨R.g, 3, none⟩ v') { R with vf := v', rows := R.rows ++ [wr.heap.size] } n kept seen writes (fun _ _ => false) := by
  have x0 := (Ext.refl wr).alloc (.cells (madeCells #[.bool false] n) 4)
  have F : Fr (fun b => R.vf.ownBlock = some b) wr w' := (Fr.of_ext (S := fun b => R.vf.ownBlock = some b) x0).trans f (fun g _ hg => hg)
  have hvg : R.vf.ownBlock ≠ some R.g := h.flr.blk h.blk (by decide)
  have hblk := h.blk.fr F hvg
  have hgg : R.g ≠ g' := fun e => by
    subst e
    rcases ho with h1 | h1
    · exact hvg h1
    · have := h.blk.lt
      simp at h1
      omega
  have hvg' : v'.ownBlock ≠ some R.g := by rw [ev]; intro e; injection e with e; exact hgg e.symm
  have hlt : ∀ b ∈ R.rows, b < wr.heap.size := fun b hb => by
    obtain ⟨t, ht, rfl⟩ := List.getElem_of_mem hb
    have := (h.row t ht).lt
    rwa [List.getD_eq_getElem?_getD, List.getElem?_eq_getElem ht] at this
  have hkg : R.vk.ownBlock ≠ some R.g := h.kept.blk h.blk (by decide)
  have hsg : R.vs.ownBlock ≠ some R.g := h.seen.blk h.blk (by decide)
  have hwg : (Value.slice (some ⟨R.gw, 0, none⟩) n n).ownBlock ≠ some R.g := h.writes.blk h.blk (by decide)
  refine ⟨hblk.set 3 v', (h.kept.fr F (h.kept.row h.flr (by decide))).far (p := ⟨R.g, 3, none⟩) hkg _, (h.seen.fr F (h.seen.row h.flr (by decide))).far (p := ⟨R.g, 3, none⟩) hsg _, (h.writes.fr F (h.writes.row h.flr (by decide))).far (p := ⟨R.g, 3, none⟩) hwg _, ?_, ?_, ?_, h.ks, h.bg, ?_⟩
  · rw [List.map_append]
    refine hr.kept fun b hb => Below.heap_setCell _ _ _ _ (fun e => hvg' (by rw [hb, e]))
  · intro t ht
    show Blk _ ((R.rows ++ [wr.heap.size]).getD t 0) _ _
    by_cases h1 : t < R.rows.length
    · have e1 : (R.rows ++ [wr.heap.size]).getD t 0 = R.rows.getD t 0 := by
        rw [List.getD_eq_getElem?_getD, List.getElem?_append_left h1, ← List.getD_eq_getElem?_getD]
      rw [e1]
      have hb := h.row t h1
      refine (hb.fr F (h.flr.blk hb (by decide))).far (p := ⟨R.g, 3, none⟩) (hb.ne h.blk (by decide)) _
    · have e2 : t = R.rows.length := by simp at ht; omega
      have e1 : (R.rows ++ [wr.heap.size]).getD t 0 = wr.heap.size := by
        rw [List.getD_eq_getElem?_getD, e2, List.getElem?_append_right (Nat.le_refl _), Nat.sub_self]; rfl
      rw [e1]
      have hb : Blk (wr.alloc (.cells (madeCells #[.bool false] n) 4)) wr.heap.size 4 (flags n (fun _ => false)) := by
        rw [flags_no, made_flags]
        exact Blk.new wr _ _
      have hne : ¬ R.vf.ownBlock = some wr.heap.size := fun e => by have := (h.flr.lt _ e).2; omega
      exact (hb.fr f hne).far (p := ⟨R.g, 3, none⟩) (by have := h.blk.lt; show wr.heap.size ≠ R.g; omega) _
  · rw [List.nodup_append]
    exact ⟨h.nd, by simp, fun a ha b hb => by simp at hb; have := hlt a ha; omega⟩
  · intro b hb
    rcases List.mem_append.1 hb with h1 | h1
    · exact h.br b h1
    · simp at h1
      omega
theorem IsRef.drewR {B n : Nat} {w : World} {R : RefB} {kept seen writes : List Int} {fl : Nat → Nat → Bool} (h : IsRef B w R n kept seen writes fl) : IsRef B w.drew R n kept seen writes fl :=
  ⟨h.blk, h.kept, h.seen, h.writes, h.flr, h.row, h.nd, h.ks, h.bg, h.br⟩
set_option maxRecDepth 100000 in
set_option maxHeartbeats 2000000 in
theorem refOpen_ok (w : World) (A : Option Addr) (N m c T : Nat) (zs : List Int) (hN : m * 8 = N) (N2 : N ≤ 2400) (m0 : 0 < m) (hl : zs.length = N) (hz : Lim zs 18446744073709551616) (hA : Ints w .u64 A zs) (T0 : 0 < T) (T1 : T ≤ 64) :
    Calls Tryz.prog 48 #[.slice A N c, .int .i64 (T : Int)] w (RefNew w T m zs) := by
  obtain ⟨ad, rfl, hadl, hac⟩ := id (hA (by omega))
  have HA := Lib.hid hA
  clear hac hA
  go_enter Tryz.func48, Tryz.ntmps48
  go_wp2_with fail
  have hL : Lays w (w.alloc (.cells #[.slice none 0 0, .slice none 0 0, .slice none 0 0, .slice none 0 0] 117)) w.heap.size (.slice none 0 0) (.slice none 0 0) [] [] :=
    ⟨Blk.new w _ _, Row.nil _ _ _ _, Row.nil _ _ _ _, (Ext.refl w).alloc _, by simp [Value.ownBlock], by simp [Value.ownBlock], fun b h => by simp [Value.ownBlock] at h, Nat.le_refl _⟩
  generalize w.alloc (.cells #[.slice none 0 0, .slice none 0 0, .slice none 0 0, .slice none 0 0] 117) = w1 at *
  generalize w.heap.size = g at hL ⊢
  go_loopw [6] (fun i wr => ∃ (k : Nat) (vk vs : Value), k ≤ N ∧ i = .int .i64 k ∧ Lays w wr g vk vs (zs.take k) (zs.take k)) (fun i _ => N - (intOf i).toNat)
  case atStart => exact ⟨0, _, _, Nat.zero_le _, rfl, hL⟩
  case round =>
    clear hL
    obtain ⟨k, vk, vs, hk, rfl, hL⟩ := hrel
    by_cases hlt : k < N
    · have u1 : decide (k < N) = true := by simp; omega
      have u2 : (k : Int) < (N : Int) := by omega
      have u3 : (0 : Int) ≤ (k : Int) := by omega
      obtain ⟨ad', e1, _, hac⟩ := (HA.out.ext hL.ext) (by omega)
      obtain rfl : ad = ad' := by injection e1
      have hcell := hac k (by omega)
      have c0 : wr.cell? ⟨g, 0, none⟩ = some vk := hL.dev.cell 0
      have f0 : wr.frozen? ⟨g, 0, none⟩ = false := hL.dev.frozen 0
      have hadw : ad.block < wr.heap.size := Nat.lt_of_lt_of_le hadl hL.ext.size
      clear hac e1
      have hgw : g < wr.heap.size := hL.dev.lt
      have hgn : ¬ g = wr.heap.size := by omega
      have hgn2 : ¬ wr.heap.size = g := by omega
      have hL' := Lib.hid hL
      have hne : ad.block < w.heap.size := hadl
      have hng : ∀ b, vk.ownBlock = some b → w.heap.size ≤ b := fun b hb => (World.ownsRow.lt hL.kept b hb).1
      have Hng := Lib.hid hng
      have HT := Lib.hid (show zs.take (k + 1) = zs.take k ++ [zs.getD k 0] by rw [List.take_add_one, List.getD_eq_getElem?_getD, List.getElem?_eq_getElem (by omega)]; rfl)
      generalize hx : zs.getD k 0 = x at hcell HT
      have HX := Lib.hid hx
      clear hx
      clear hL hng
      go_wp2_with fail
      go_cut [26] (fun s26 wx => ∃ vk', Lays w wx g vk' vs (zs.take (k + 1)) (zs.take k))
      case first =>
        go_region_law ((refine step_pushOff (by rfl) _ _ 65 (by rfl) 53 .u64 8 word_info (by omega) Tryz.underlying65 w wr _ (zs.take k) x (by rfl) hL'.out.kept hL'.out.ext (by rfl) (by rw [List.length_take]; omega) ?_; intro g' cap' w' hrow' hext' hfr ho; have c0' : w'.cell? ⟨g, 0, none⟩ = some vk := (World.cell?_of_block (hfr.block _ hgw (hL'.out.gk))).trans c0; have f0' : w'.frozen? ⟨g, 0, none⟩ = false := (hL'.out.dev.fr hfr hL'.out.gk).frozen 0))
        all_goals
          go_wp2_with fail
          go_meet
          rw [HT.out]
          have hlk : (zs.take k).length = k := by rw [List.length_take]; omega
          rw [hlk] at hrow'
          have hsg : vs.ownBlock ≠ some g' := fun hh => by
            rcases ho with h | h
            · exact hL'.out.ks _ h hh
            · have := (World.ownsRow.lt hL'.out.seen _ hh).2
              omega
          have hgg : g ≠ g' := fun hh => by
            subst hh
            rcases ho with h | h
            · exact hL'.out.gk h
            · omega
          have hd := (hL'.out.dev.fr hfr hL'.out.gk).set 0 (.slice (some ⟨g', 0, none⟩) (k + 1) cap')
          have hs2 := (hL'.out.seen.fr hfr (fun b hb hb2 => hL'.out.ks b hb2 hb)).far (p := ⟨g, 0, none⟩) hL'.out.gs (.slice (some ⟨g', 0, none⟩) (k + 1) cap')
          have hk2 := hrow'.far (p := ⟨g, 0, none⟩) (by simp [Value.ownBlock]; exact fun h => hgg h.symm) (.slice (some ⟨g', 0, none⟩) (k + 1) cap')
          exact ⟨.slice (some ⟨g', 0, none⟩) (k + 1) cap', hd, hk2, hs2, hext'.setCell hL'.out.g0 _, by simp [Value.ownBlock]; exact fun h => hgg h.symm, hL'.out.gs, fun b hb => by
            have e : g' = b := by simpa [Value.ownBlock] using hb
            subst e
            exact hsg, hL'.out.g0⟩
      case rest =>
        obtain ⟨vk', hL2⟩ := hcut
        clear hcell c0 f0 hgw hgn hgn2 hL' hadw Hng
        generalize wc = w5 at *
        obtain ⟨ad', e1, _, hac⟩ := (HA.out.ext hL2.ext) (by omega)
        obtain rfl : ad = ad' := by injection e1
        have hcell : w5.cell? (ad.add k) = some (.int .u64 x) := by rw [hac k (by omega), HX.out]
        have c0 : w5.cell? ⟨g, 1, none⟩ = some vs := hL2.dev.cell 1
        have hgw : g < w5.heap.size := hL2.dev.lt
        have hgn : ¬ g = w5.heap.size := by omega
        have hgn2 : ¬ w5.heap.size = g := by omega
        have hadw : ad.block < w5.heap.size := Nat.lt_of_lt_of_le hadl hL2.ext.size
        have hL' := Lib.hid hL2
        clear hac e1 hL2
        go_wp2_with fail
        go_region_law ((refine step_pushOff (by rfl) _ _ 65 (by rfl) 53 .u64 8 word_info (by omega) Tryz.underlying65 w w5 _ (zs.take k) x (by rfl) hL'.out.seen hL'.out.ext (by rfl) (by rw [List.length_take]; omega) ?_; intro g' cap' w' hrow' hext' hfr ho; have c0' : w'.cell? ⟨g, 1, none⟩ = some vs := (World.cell?_of_block (hfr.block _ hgw (hL'.out.gs))).trans c0; have f0' : w'.frozen? ⟨g, 1, none⟩ = false := (hL'.out.dev.fr hfr hL'.out.gs).frozen 1))
        all_goals
          have hlk : (zs.take k).length = k := by rw [List.length_take]; omega
          rw [hlk] at hrow'
          have hsg : vk'.ownBlock ≠ some g' := fun hh => by
            rcases ho with h | h
            · exact hL'.out.ks _ hh h
            · have := (World.ownsRow.lt hL'.out.kept _ hh).2
              omega
          have hgg : g ≠ g' := fun hh => by
            subst hh
            rcases ho with h | h
            · exact hL'.out.gs h
            · omega
          have hd := (hL'.out.dev.fr hfr hL'.out.gs).set 1 (.slice (some ⟨g', 0, none⟩) (k + 1) cap')
          have hs2 := (hL'.out.kept.fr hfr (fun b hb hb2 => hL'.out.ks b hb hb2)).far (p := ⟨g, 1, none⟩) hL'.out.gk (.slice (some ⟨g', 0, none⟩) (k + 1) cap')
          have hk2 := hrow'.far (p := ⟨g, 1, none⟩) (by simp [Value.ownBlock]; exact fun h => hgg h.symm) (.slice (some ⟨g', 0, none⟩) (k + 1) cap')
          rw [← HT.out] at hk2
          have hL3 : Lays w (w'.setCell ⟨g, 1, none⟩ (.slice (some ⟨g', 0, none⟩) (k + 1) cap')) g vk' (.slice (some ⟨g', 0, none⟩) (k + 1) cap') (zs.take (k + 1)) (zs.take (k + 1)) := ⟨hd, hs2, hk2, hext'.setCell hL'.out.g0 _, hL'.out.gk, by simp [Value.ownBlock]; exact fun h => hgg h.symm, fun b hb => by
            intro hb2
            have e : g' = b := by simpa [Value.ownBlock] using hb2
            subst e
            exact hsg hb, hL'.out.g0⟩
          clear hd hs2 hk2 hrow' hext' hfr ho
          go_wp2_with fail
          go_roundw
          case rel => exact ⟨k + 1, vk', _, by omega, by go_num, by first | exact hL3 | exact ⟨hL3.dev, hL3.kept, hL3.seen, hL3.ext.drew, hL3.gk, hL3.gs, hL3.ks, hL3.g0⟩⟩
          case measure => simp [intOf]; omega
    · have u1 : decide (k < N) = false := by simp; omega
      have u2 : ¬ (k : Int) < (N : Int) := by omega
      obtain rfl : k = N := by omega
      rw [List.take_of_length_le (by omega)] at hL
      have hd : ((k : Int)) / 8 = (m : Int) := by omega
      have hd2 : ((k : Int)).tdiv 8 = (m : Int) := by rw [Int.tdiv_eq_ediv_of_nonneg (by omega)]; exact hd
      have hmk := fun W => make_ints m m (Nat.le_refl _) (by omega) W
      have c2 : wr.cell? ⟨g, 2, none⟩ = some (.slice none 0 0) := hL.dev.cell 2
      have f2 : wr.frozen? ⟨g, 2, none⟩ = false := hL.dev.frozen 2
      have hgw : g < wr.heap.size := hL.dev.lt
      have hgn : ¬ g = wr.heap.size := by omega
      have hgn2 : ¬ wr.heap.size = g := by omega
      have HL := Lib.hid hL
      clear hL
      have HD := Lib.hid (HL.out.done m (by omega))
      have hne0 : 0 < m := m0
      go_wp2_with fail
      clear c2 f2 hgw hgn hgn2 hmk HL HA
      generalize (wr.setCell ⟨g, 2, none⟩ (.slice (some ⟨wr.heap.size, 0, none⟩) m m)).alloc (.cells (madeCells #[.int .i64 0] m) 3) = w3 at *
      go_loopw [7] (fun i wq => ∃ (q : Nat) (R : RefB), q ≤ T ∧ i = .int .i64 q ∧ R.g = g ∧ R.rows.length = q ∧ IsRef w.heap.size wq R m zs zs (List.replicate m 0) (fun _ _ => false) ∧ Ext w wq) (fun i _ => T - (intOf i).toNat)
      case atStart => exact ⟨0, _, Nat.zero_le _, rfl, rfl, rfl, HD.out.1, HD.out.2⟩
      case round =>
        clear HD
        obtain ⟨q, R, hq, rfl, rfl, hrl, hR, hX⟩ := hrel
        have HR := Lib.hid hR
        have HX := Lib.hid hX
        have HQ := Lib.hid hrl
        by_cases hlt : q < T
        · have v1 : decide (q < T) = true := by simp; omega
          have v2 : (q : Int) < (T : Int) := by omega
          have c3 : wr.cell? ⟨R.g, 3, none⟩ = some R.vf := hR.blk.cell 3
          have f3 : wr.frozen? ⟨R.g, 3, none⟩ = false := hR.blk.frozen 3
          have hgw : R.g < wr.heap.size := hR.blk.lt
          have hgn : ¬ R.g = wr.heap.size := by omega
          have hgn2 : ¬ R.g = wr.heap.size + 1 := by omega
          have hvg : R.vf.ownBlock ≠ some R.g := hR.flr.blk hR.blk (by decide)
          have HV := Lib.hid hvg
          have hmk := fun W => make_flags m (by omega) W
          have hwm : IntKind.i64.wrap (m : Int) = (m : Int) := IntWalk.i64_in _ (by omega)
          clear hR hX hrl hvg
          generalize hg : R.g = g at c3 f3 hgw hgn hgn2
          have HG := Lib.hid hg
          clear hg
          go_wp2_with fail
          go_region_law ((refine step_pushE (by rfl) _ _ 115 (by rfl) 26 (.slice none 0 0) 24 row_info rfl (by omega) Tryz.underlying115 w (wr.alloc (.cells (madeCells #[.bool false] m) 4)) _ (R.rows.map fun b => .slice (some ⟨b, 0, none⟩) m m) (.slice (some ⟨wr.heap.size, 0, none⟩) m m) rfl (by rfl) (World.ownsRow.alloc HR.out.flr _) (HX.out.alloc _) (by first | rfl | (simp; rfl)) (by rw [List.length_map, HQ.out]; omega) ?_; intro g' cap' w' hrow' hext' hfr ho; have c3' : w'.cell? ⟨g, 3, none⟩ = some R.vf := (by rw [← HG.out]; exact ((HR.out.blk.ext ((Ext.refl wr).alloc _)).fr hfr HV.out).cell 3); have f3' : w'.frozen? ⟨g, 3, none⟩ = false := by rw [← HG.out]; exact ((HR.out.blk.ext ((Ext.refl wr).alloc _)).fr hfr HV.out).frozen 3))
          all_goals
            rw [List.length_map] at hrow'
            have hp := HR.out.push HX.out.size (v' := .slice (some ⟨g', 0, none⟩) (R.rows.length + 1) cap') rfl hrow' hfr ho
            have hxx := hext'.setCell (p := ⟨R.g, 3, none⟩) HR.out.bg (.slice (some ⟨g', 0, none⟩) (R.rows.length + 1) cap')
            rw [HG.out] at hp hxx
            clear hrow' hfr ho hext' c3' f3' c3 f3 hgw hgn hgn2
            go_wp2_with fail
            go_roundw
            case rel => exact ⟨q + 1, { R with g := g, vf := .slice (some ⟨g', 0, none⟩) (R.rows.length + 1) cap', rows := R.rows ++ [wr.heap.size] }, by omega, by go_num, by first | rfl | exact HG.out | exact HG.out.symm, by rw [List.length_append, HQ.out]; rfl, by first | exact hp | exact hp.drewR, by first | exact hxx | exact hxx.drew⟩
            case measure => simp [intOf]; omega
        · have v1 : decide (q < T) = false := by simp; omega
          have v2 : ¬ (q : Int) < (T : Int) := by omega
          clear hR hX hrl
          go_wp2_with fail
          go_ret
          exact ⟨R, rfl, by have := HQ.out; omega, HR.out, HX.out⟩
end Go.Proofs.YtolengkegjipaaaGreat


/- The document's device over the state of the program's, and the document's memory: New. Conditions: those that each theorem names. -/
namespace Go.Proofs.YtolengkegjipaaaGreat
open Go.ChangeShapes Go.WideShapes Go.ChangeAt Go.RowKit
set_option linter.unusedVariables false
theorem RowE.mono {w : World} {B B' : Nat} {e : TypeId} {v : Value} {us : List Value} (h : RowE w B e v us) (hB : B' ≤ B) : RowE w B' e v us := by
  refine ⟨h.1, ?_⟩
  rcases h.2 with h2 | ⟨g, cap, cur, hv, hg, r⟩
  · exact Or.inl h2
  · exact Or.inr ⟨g, cap, cur, hv, Nat.le_trans hB hg, r⟩
theorem rows_mem {l : List Nat} {t : Nat} (h : t < l.length) : l.getD t 0 ∈ l := by
  rw [List.getD_eq_getElem?_getD, List.getElem?_eq_getElem h]
  exact List.getElem_mem h
section
variable {B n : Nat} {w w' : World} {R : RefB} {kept seen writes : List Int} {fl : Nat → Nat → Bool} {S : Nat → Prop}
theorem IsRef.fr (h : IsRef B w R n kept seen writes fl) (f : Fr S w w') (hS : ∀ b, R.foot b → ¬ S b) : IsRef B w' R n kept seen writes fl where
  blk := h.blk.fr f (hS _ (Or.inl rfl))
  kept := h.kept.fr f (fun b hb => hS b (Or.inr (Or.inl hb)))
  seen := h.seen.fr f (fun b hb => hS b (Or.inr (Or.inr (Or.inl hb))))
  writes := h.writes.fr f (fun b hb => hS b (Or.inr (Or.inr (Or.inr (Or.inl (by simpa [Value.ownBlock] using hb.symm))))))
  flr := h.flr.fr f (fun b hb => hS b (Or.inr (Or.inr (Or.inr (Or.inr (Or.inl hb))))))
  row := fun t ht => (h.row t ht).fr f (hS _ (Or.inr (Or.inr (Or.inr (Or.inr (Or.inr (rows_mem ht)))))))
  nd := h.nd
  ks := h.ks
  bg := h.bg
  br := h.br
theorem IsRef.ext (h : IsRef B w R n kept seen writes fl) (x : Ext w w') : IsRef B w' R n kept seen writes fl := h.fr (S := fun _ => False) (Fr.of_ext x) (fun _ _ hs => hs)
theorem IsRef.mono {B' : Nat} (h : IsRef B w R n kept seen writes fl) (hB : B' ≤ B) : IsRef B' w R n kept seen writes fl :=
  ⟨h.blk, h.kept.mono hB, h.seen.mono hB, h.writes.mono hB, h.flr.mono hB, h.row, h.nd, h.ks, Nat.le_trans hB h.bg, fun b hb => Nat.le_trans hB (h.br b hb)⟩
theorem IsRef.foot_lt (h : IsRef B w R n kept seen writes fl) {b : Nat} (hb : R.foot b) : B ≤ b ∧ b < w.heap.size := by
  rcases hb with rfl | hb | hb | rfl | hb | hb
  · exact ⟨h.bg, h.blk.lt⟩
  · exact World.ownsRow.lt h.kept b hb
  · exact World.ownsRow.lt h.seen b hb
  · exact World.ownsRow.lt h.writes _ rfl
  · exact h.flr.lt b hb
  · refine ⟨h.br b hb, ?_⟩
    obtain ⟨t, ht, rfl⟩ := List.getElem_of_mem hb
    have := (h.row t ht).lt
    rwa [List.getD_eq_getElem?_getD, List.getElem?_eq_getElem ht] at this
end
/-- Which lines a thread flushes. -/
def DSt.flag (s : DSt) (t p : Nat) : Bool := (s.fl.getD t []).contains (p : Int)
/-- The document's device, over the state of the program's. -/
structure RefAt (B : Nat) (w : World) (R : RefB) (s : DSt) : Prop where
  is : IsRef B w R s.n s.kept s.seen s.writes s.flag
  lr : R.rows.length = s.T
  lk : s.kept.length = s.n * 8
  ls : s.seen.length = s.n * 8
def DSt.new (m T : Nat) (zs : List Int) : DSt := ⟨m, T, zs, zs, List.replicate m 0, List.replicate T []⟩
theorem DSt.new_flag (m T : Nat) (zs : List Int) : (DSt.new m T zs).flag = fun _ _ => false := by
  funext t p
  unfold DSt.flag DSt.new
  simp only [List.getD_eq_getElem?_getD, List.getElem?_replicate]
  split <;> rfl
section
variable {B : Nat} {w w' : World} {R : RefB} {s : DSt} {S : Nat → Prop}
theorem RefAt.fr (h : RefAt B w R s) (f : Fr S w w') (hS : ∀ b, R.foot b → ¬ S b) : RefAt B w' R s := ⟨h.is.fr f hS, h.lr, h.lk, h.ls⟩
theorem RefAt.ext (h : RefAt B w R s) (x : Ext w w') : RefAt B w' R s := ⟨h.is.ext x, h.lr, h.lk, h.ls⟩
theorem RefAt.mono {B' : Nat} (h : RefAt B w R s) (hB : B' ≤ B) : RefAt B' w R s := ⟨h.is.mono hB, h.lr, h.lk, h.ls⟩
theorem RefAt.new {m T : Nat} {zs : List Int} (h : IsRef B w R m zs zs (List.replicate m 0) (fun _ _ => false)) (hr : R.rows.length = T) (hl : zs.length = m * 8) : RefAt B w R (DSt.new m T zs) :=
  ⟨by rw [DSt.new_flag]; exact h, hr, hl, hl⟩
end
/-- What a memory of the document's has. -/
def rfoot (g : Nat) (R : RefB) (pv : Value) (b : Nat) : Prop := b = g ∨ pv.ownBlock = some b ∨ R.foot b
structure IsRMem (B : Nat) (w : World) (g : Nat) (R : RefB) (pv : Value) (s : MSt) : Prop where
  bg : B ≤ g
  blk : Blk w g 109 (memCells R.ptr pv s)
  pas : Row w B 53 .u64 pv s.pas
  dev : RefAt B w R s.dev
  pk : ∀ b, pv.ownBlock = some b → R.vk.ownBlock ≠ some b ∧ R.vs.ownBlock ≠ some b
  lp : s.pas.length ≤ 262144
section
variable {B g : Nat} {w w' : World} {R : RefB} {pv : Value} {s : MSt} {S : Nat → Prop}
theorem IsRMem.fr (h : IsRMem B w g R pv s) (f : Fr S w w') (hS : ∀ b, rfoot g R pv b → ¬ S b) : IsRMem B w' g R pv s :=
  ⟨h.bg, h.blk.fr f (hS _ (Or.inl rfl)), h.pas.fr f (fun b hb => hS b (Or.inr (Or.inl hb))), h.dev.fr f (fun b hb => hS b (Or.inr (Or.inr hb))), h.pk, h.lp⟩
theorem IsRMem.ext (h : IsRMem B w g R pv s) (x : Ext w w') : IsRMem B w' g R pv s := h.fr (S := fun _ => False) (Fr.of_ext x) (fun _ _ hs => hs)
theorem IsRMem.foot_lt (h : IsRMem B w g R pv s) {b : Nat} (hb : rfoot g R pv b) : B ≤ b ∧ b < w.heap.size := by
  rcases hb with rfl | hb | hb
  · exact ⟨h.bg, h.blk.lt⟩
  · exact World.ownsRow.lt h.pas b hb
  · exact h.dev.is.foot_lt hb
/-- Nothing of it has turned, though more is there. -/
theorem IsRMem.kept (h : IsRMem B w g R pv s) (f : Fr (fun b => ¬ rfoot g R pv b) w w') : IsRMem B w' g R pv s := h.fr f (fun b hb hs => hs hb)
theorem IsRMem.made {d : DSt} {n : Nat} (hd : RefAt B w R d) (hp : Row w B 53 .u64 pv (List.replicate n 0)) (hB : B ≤ w.heap.size) (pk : ∀ b, pv.ownBlock = some b → R.vk.ownBlock ≠ some b ∧ R.vs.ownBlock ≠ some b) (hn : n ≤ 262144) :
    IsRMem B (w.alloc (.cells #[R.ptr, pv, .int .i64 0, .int .i64 0, .int .i64 0, .int .i64 0, .int .i64 0, .int .u64 0, .int .u64 0, .bool false] 109)) w.heap.size R pv (MSt.new d n) := by
  have x := (Ext.refl w).alloc (.cells #[R.ptr, pv, .int .i64 0, .int .i64 0, .int .i64 0, .int .i64 0, .int .i64 0, .int .u64 0, .int .u64 0, .bool false] 109)
  exact ⟨hB, Blk.new w _ [R.ptr, pv, .int .i64 0, .int .i64 0, .int .i64 0, .int .i64 0, .int .i64 0, .int .u64 0, .int .u64 0, .bool false], hp.ext x, hd.ext x, pk, by simp [MSt.new]; exact hn⟩
end
def RMemNew (w : World) (s : MSt) (e : Ending) (w' : World) : Prop := ∃ g R pv, e = .returned (.pointer (some ⟨g, 0, none⟩)) ∧ IsRMem w.heap.size w' g R pv s ∧ Ext w w'
theorem RMemNew.first {w w1 : World} {R : RefB} {m T n : Nat} {zs : List Int} (hl : zs.length = m * 8) (hr : R.rows.length = T) (hn : n ≤ 262144) (h : IsRef w.heap.size w1 R m zs zs (List.replicate m 0) (fun _ _ => false)) (x : Ext w w1) :
    RMemNew w (MSt.new (DSt.new m T zs) n) (.returned (.pointer (some ⟨w1.heap.size + 1, 0, none⟩))) ((w1.alloc (.cells (madeCells #[.int .u64 0] n) 53)).alloc (.cells #[R.ptr, .slice (some ⟨w1.heap.size, 0, none⟩) n n, .int .i64 0, .int .i64 0, .int .i64 0, .int .i64 0, .int .i64 0, .int .u64 0, .int .u64 0, .bool false] 109)) := by
  have hp := Row.made w1 53 n n .u64 (Nat.le_refl _) (by omega)
  rw [Nat.mul_one] at hp
  have y := (Ext.refl w1).alloc (.cells (madeCells #[.int .u64 0] n) 53)
  have hM := IsRMem.made (RefAt.new (h.ext y) hr hl) (hp.mono x.size) (x.trans y).size (fun b hb => by
    have e : w1.heap.size = b := by simpa [Value.ownBlock] using hb
    subst e
    exact ⟨fun hk => by have := (World.ownsRow.lt h.kept _ hk).2; omega, fun hk => by have := (World.ownsRow.lt h.seen _ hk).2; omega⟩) hn
  have hsz : (w1.alloc (.cells (madeCells #[.int .u64 0] n) 53)).heap.size = w1.heap.size + 1 := by simp
  rw [hsz] at hM
  exact ⟨_, _, _, rfl, hM, (x.trans y).alloc _⟩
theorem RMemNew.second {w w1 : World} {R : RefB} {m T n : Nat} {zs : List Int} (hl : zs.length = m * 8) (hr : R.rows.length = T) (hn : n ≤ 262144) (h : IsRef (w.heap.size + 1) w1 R m zs zs (List.replicate m 0) (fun _ _ => false)) (x : Ext (w.alloc (.cells (madeCells #[.int .u64 0] n) 53)) w1) :
    RMemNew w (MSt.new (DSt.new m T zs) n) (.returned (.pointer (some ⟨w1.heap.size, 0, none⟩))) (w1.alloc (.cells #[R.ptr, .slice (some ⟨w.heap.size, 0, none⟩) n n, .int .i64 0, .int .i64 0, .int .i64 0, .int .i64 0, .int .i64 0, .int .u64 0, .int .u64 0, .bool false] 109)) := by
  have hp := Row.made w 53 n n .u64 (Nat.le_refl _) (by omega)
  rw [Nat.mul_one] at hp
  have y := (Ext.refl w).alloc (.cells (madeCells #[.int .u64 0] n) 53)
  have hM := IsRMem.made (RefAt.new (h.mono (Nat.le_succ _)) hr hl) (hp.ext x) (y.trans x).size (fun b hb => by
    have e : w.heap.size = b := by simpa [Value.ownBlock] using hb
    subst e
    exact ⟨fun hk => by have := (World.ownsRow.lt h.kept _ hk).1; omega, fun hk => by have := (World.ownsRow.lt h.seen _ hk).1; omega⟩) hn
  exact ⟨_, _, _, rfl, hM, (y.trans x).alloc _⟩
set_option maxRecDepth 100000 in
set_option maxHeartbeats 2000000 in
theorem refNew_ok (w : World) (A : Option Addr) (N m c T n : Nat) (zs : List Int) (hN : m * 8 = N) (N2 : N ≤ 2400) (m0 : 0 < m) (hl : zs.length = N) (hz : Lim zs 18446744073709551616) (hA : Ints w .u64 A zs) (T0 : 0 < T) (T1 : T ≤ 64) (hn : n ≤ 262144) :
    Calls Tryz.prog 28 #[.slice A N c, .int .i64 (T : Int), .int .i64 (n : Int)] w (RMemNew w (MSt.new (DSt.new m T zs) n)) := by
  have HO := Lib.hid (fun (W : World) (x : Ext w W) => refOpen_ok W A N m c T zs hN N2 m0 hl hz (hA.ext x) T0 T1)
  have hmk := fun W => make_words n n (Nat.le_refl _) (by omega) W
  have H1 := Lib.hid (fun (w1 : World) (R : RefB) (hr : R.rows.length = T) => RMemNew.first (w := w) (w1 := w1) (R := R) (m := m) (T := T) (n := n) (zs := zs) (by omega) hr hn)
  have H2 := Lib.hid (fun (w1 : World) (R : RefB) (hr : R.rows.length = T) => RMemNew.second (w := w) (w1 := w1) (R := R) (m := m) (T := T) (n := n) (zs := zs) (by omega) hr hn)
  have hwn : IntKind.i64.wrap (n : Int) = (n : Int) := IntWalk.i64_in _ (by omega)
  simp only [Nat.mul_one] at hmk
  clear hA hz hN hl
  go_enter Tryz.func28, Tryz.ntmps28
  go_wp2_with fail
  go_region_with (go_at_call 48; refine (HO.out _ (by first | exact (Ext.refl w).drew | exact ((Ext.refl w).drew).alloc _ | exact ((Ext.refl w).alloc _).drew | exact (((Ext.refl w).alloc _).alloc _).drew)).mono ?_; rintro e w1 ⟨R, rfl, hr, hR, x1⟩; replace hr := Lib.hid hr; replace hR := Lib.hid hR; replace x1 := Lib.hid x1; simp only [RefB.ptr])
  all_goals
    go_wp2_with fail
    go_ret
    first
      | exact H1.out w1 R hr.out hR.out (((Ext.refl w).drew).trans x1.out)
      | exact H2.out w1 R hr.out (hR.out.mono (by simp)) (((Ext.refl (w.alloc (.cells (madeCells #[.int .u64 0] n) 53))).drew).trans x1.out)
      | exact H2.out w1 R hr.out (hR.out.mono (by simp [World.drew])) ((show Ext (w.alloc (.cells (madeCells #[.int .u64 0] n) 53)) (w.drew.alloc (.cells (madeCells #[.int .u64 0] n) 53)) from ⟨rfl, rfl, rfl, Nat.le_refl _, fun _ _ => rfl⟩).trans x1.out)
end Go.Proofs.YtolengkegjipaaaGreat

