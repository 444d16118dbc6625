/- Library contracts laid at this program (slices.Clone, BinarySearch, Insert at []int), in plain words. Conditions: none. -/
import Derived.Ground.Names2Prog
import Derived.Shelf.Slices.Clone
import Derived.Shelf.Slices.SearchI
import Derived.Shelf.Spec.SlicesInsert
import Derived.Shelf.Spec.SlicesInsertGrow
import Derived.Test.YtolengkegjipaaaGreatKBase
import Derived.Test.YtolengkegjipaaaGreatKDevB
import Derived.Test.YtolengkegjipaaaGreatLineFns6
namespace Go.Proofs.YtolengkegjipaaaGreat
open Go.Shelf
def laysNm225_ren : Go.Shelf.Ren := ⟨fun | 25 => 127 | 31 => 130 | 32 => 131 | 37 => 134 | n => n, fun | 22 => 44 | 3 => 3 | 4 => 4 | 40 => 92 | 0 => 0 | n => n, fun | n => n⟩
theorem laysNm225 : Go.Proofs.Lays2.n25 Tryz.prog laysNm225_ren := {
  mixed := by kernel_rfl
  f25 := Tryz.func127.trans (congrArg some (by kernel_rfl))
  f31 := Tryz.func130.trans (congrArg some (by kernel_rfl))
  f32 := Tryz.func131.trans (congrArg some (by kernel_rfl))
  f37 := Tryz.func134.trans (congrArg some (by kernel_rfl))
  t0 := Tryz.underlying0
  a0 := Tryz.isAgg0
  z0 := Tryz.sizeOf0
  v0 := Tryz.zeroValue0
  t3 := Tryz.underlying3
  a3 := Tryz.isAgg3
  z3 := Tryz.sizeOf3
  v3 := Tryz.zeroValue3
  t4 := Tryz.underlying4
  a4 := Tryz.isAgg4
  z4 := Tryz.sizeOf4
  v4 := Tryz.zeroValue4
  t22 := Tryz.underlying44
  a22 := Tryz.isAgg44
  z22 := Tryz.sizeOf44
  v22 := Tryz.zeroValue44
  t40 := Tryz.underlying92
  a40 := Tryz.isAgg92
  z40 := Tryz.sizeOf92
  v40 := Tryz.zeroValue92 }
def laysNm221_ren : Go.Shelf.Ren := ⟨fun | 21 => 128 | 27 => 132 | 28 => 133 | 35 => 135 | 39 => 136 | n => n, fun | 22 => 44 | 3 => 3 | 4 => 4 | 0 => 0 | n => n, fun | n => n⟩
theorem laysNm221 : Go.Proofs.Lays2.n21 Tryz.prog laysNm221_ren := {
  mixed := by kernel_rfl
  f21 := Tryz.func128.trans (congrArg some (by kernel_rfl))
  f27 := Tryz.func132.trans (congrArg some (by kernel_rfl))
  f28 := Tryz.func133.trans (congrArg some (by kernel_rfl))
  f35 := Tryz.func135.trans (congrArg some (by kernel_rfl))
  f39 := Tryz.func136.trans (congrArg some (by kernel_rfl))
  t0 := Tryz.underlying0
  a0 := Tryz.isAgg0
  z0 := Tryz.sizeOf0
  v0 := Tryz.zeroValue0
  t3 := Tryz.underlying3
  a3 := Tryz.isAgg3
  z3 := Tryz.sizeOf3
  v3 := Tryz.zeroValue3
  t4 := Tryz.underlying4
  a4 := Tryz.isAgg4
  z4 := Tryz.sizeOf4
  v4 := Tryz.zeroValue4
  t22 := Tryz.underlying44
  a22 := Tryz.isAgg44
  z22 := Tryz.sizeOf44
  v22 := Tryz.zeroValue44
  i3 := by kernel_rfl }
end Go.Proofs.YtolengkegjipaaaGreat


/- slices.Insert at a row of the call's own; a set that is added to; Flush. Conditions: those that each theorem names. -/
namespace Go.Proofs.YtolengkegjipaaaGreat
open Go.ChangeShapes Go.WideShapes Go.ChangeAt Go.RowKit
set_option linter.unusedVariables false
/-- Cells put one behind the other. -/
def putL (cs : List Value) : Nat → List Value → List Value
  | _, [] => cs
  | o, v :: vs => putL (cs.set o v) (o + 1) vs
theorem putL_eq : ∀ (vs : List Value) (o : Nat) (cs : List Value), o + vs.length ≤ cs.length → putL cs o vs = cs.take o ++ vs ++ cs.drop (o + vs.length)
  | [], o, cs, _ => by simp [putL]
  | v :: vs, o, cs, h => by
    simp only [List.length_cons] at h
    rw [putL, putL_eq vs (o + 1) (cs.set o v) (by rw [List.length_set]; omega)]
    have h1 : (cs.set o v).take (o + 1) = cs.take o ++ [v] := by
      rw [List.take_add_one, List.getElem?_set_self (by omega), List.take_set_of_le (Nat.le_refl _)]; rfl
    have h2 : (cs.set o v).drop (o + 1 + vs.length) = cs.drop (o + 1 + vs.length) := List.drop_set_of_lt (by omega)
    rw [h1, h2]
    simp [Nat.add_assoc, Nat.add_comm 1]
theorem Blk.setCells {g : Nat} {t : TypeId} : ∀ (vs : List Value) (o : Nat) {w : World} {cs : List Value}, Blk w g t cs → Blk (w.setCells g o vs) g t (putL cs o vs)
  | [], _, _, _, h => h
  | v :: vs, o, _, _, h => Blk.setCells vs (o + 1) (h.set o v)
theorem setCells_fr (g : Nat) : ∀ (vs : List Value) (o : Nat) (w : World), Fr (fun k => k = g) w (w.setCells g o vs)
  | [], _, w => Fr.refl _ w
  | v :: vs, o, w => ((Fr.refl (fun k => k = g) w).setCell (p := ⟨g, o, none⟩) (Or.inl rfl) v).trans (setCells_fr g vs (o + 1) _) (fun _ _ h => h)
theorem Blk.drew {g : Nat} {t : TypeId} {w : World} {cs : List Value} (h : Blk w g t cs) : Blk w.drew g t cs := h
theorem zcells (n : Nat) : (Builtin.zeroCells (Value.int .i64 0).cells n).toList.length = n := by
  show (Builtin.zeroCells #[Value.int .i64 0] n).toList.length = n
  simp [Builtin.zeroCells]
/-- The list with a word put in. -/
def insAt (zs : List Int) (i : Nat) (x : Int) : List Int := zs.take i ++ x :: zs.drop i
theorem insAt_len (zs : List Int) (i : Nat) (x : Int) (hi : i ≤ zs.length) : (insAt zs i x).length = zs.length + 1 := by unfold insAt; simp; omega
theorem one_ints (l : List Int) : ∀ v ∈ l.map (Value.int .i64), v.oneCell' = true := fun v hv => by
  obtain ⟨z, _, rfl⟩ := List.mem_map.1 hv
  rfl
theorem shape_blk {g : Nat} {t : TypeId} {w : World} {cs : List Value} (h : Blk w g t cs) : w.shape? g = some (t, cs.length) := by
  unfold Blk at h
  simp [World.shape?, h]
set_option maxRecDepth 100000 in
set_option maxHeartbeats 400000 in
theorem insert_end (w0 w : World) (v : Value) (g : Nat) (x : Int) (zs : List Int) (h0 : 0 < zs.length) (hz : zs.length ≤ 1000000) (hr : Row w w0.heap.size 3 .i64 v zs) (ext : Ext w0 w) (hc : w.cell? ⟨g, 0, none⟩ = some (.int .i64 x)) :
    Calls Tryz.prog 128 #[v, .int .i64 (zs.length : Int), .slice (some ⟨g, 0, none⟩) 1 1] w (RowOnto w0 w v (zs ++ [x])) := by
  obtain ⟨b, c, rfl, hlc, hcm, _, _⟩ := (RowN.of_row hr).at_ h0
  unfold maxLen at hcm
  have HR := Lib.hid (RowN.of_row hr)
  clear hr
  generalize hn : zs.length = n at *
  have HN := Lib.hid hn
  clear hn
  rcases Nat.lt_or_eq_of_le hlc with hlt | heq
  · go_enter Tryz.func128, Tryz.ntmps128
    go_wp2_with ((at_builtin; refine Hid.out ?_))
    refine Lib.hid ?_
    refine wpList_appN rfl _ _ 44 rfl 3 .i64 1 8 (.int .i64 0) int_info rfl (by decide) (by decide) Tryz.underlying44 w0 w _ n zs (by rfl) HR.out ext ⟨g, 0, none⟩ 1 1 [x] (by rfl) rfl (one_at hc) (by omega) ?_
    intro v' w' h1 h2 h3 h4
    go_wp2_with fail
    go_ret
    exact ⟨v', rfl, h1.row, h2, h3, h4⟩
  · subst heq
    go_enter Tryz.func128, Tryz.ntmps128
    go_wp2_with ((at_builtin; refine Hid.out ?_))
    refine Lib.hid ?_
    refine wpList_appN rfl _ _ 44 rfl 3 .i64 1 8 (.int .i64 0) int_info rfl (by decide) (by decide) Tryz.underlying44 w0 w _ n zs (by rfl) HR.out ext ⟨g, 0, none⟩ 1 1 [x] (by rfl) rfl (one_at hc) (by omega) ?_
    intro v' w' h1 h2 h3 h4
    go_wp2_with fail
    go_ret
    exact ⟨v', rfl, h1.row, h2, h3, h4⟩
set_option maxRecDepth 100000 in
set_option maxHeartbeats 400000 in
theorem insert_mid (w0 w : World) (v : Value) (g : Nat) (x : Int) (zs : List Int) (i : Nat) (hi : i < zs.length) (hz : zs.length ≤ 1000000) (hr : Row w w0.heap.size 3 .i64 v zs) (ext : Ext w0 w) (hb : Blk w g 3 [.int .i64 x]) (hg : v.ownBlock ≠ some g) :
    Calls Tryz.prog 128 #[v, .int .i64 (i : Int), .slice (some ⟨g, 0, none⟩) 1 1] w (RowOnto w0 w v (insAt zs i x)) := by
  rcases hr.2 with ⟨_, h0⟩ | ⟨b, cap, cur, rfl, hbB, hh, hnc, hcm, hcs, htk⟩
  · omega
  rw [Nat.mul_one] at hcs htk
  have hbl : b < w.heap.size := (Array.getElem?_eq_some_iff.1 hh).1
  have hne : g ≠ b := fun e => hg (by rw [e]; rfl)
  have hB : Blk w b 3 cur.toList := by unfold Blk; simpa using hh
  have hlen : cur.toList.length = cap := by simpa using hcs
  have hml : (zs.map (Value.int .i64)).length = zs.length := by simp
  have hcell : ∀ j u, (zs.map (Value.int .i64))[j]? = some u → w.cell? ⟨b, 0 + j, none⟩ = some u := fun j u hj => by
    rw [Nat.zero_add, hB.cell j, ← hj, ← htk, List.getElem?_take]
    have : j < zs.length := by
      have := (List.getElem?_eq_some_iff.1 hj).1
      simpa using this
    rw [if_pos this]
  have hone : ∀ j u, [Value.int .i64 x][j]? = some u → w.cell? ⟨g, 0 + j, none⟩ = some u := fun j u hj => by
    rw [Nat.zero_add, hb.cell j]; exact hj
  have hti : cur.toList.take i = (zs.map (Value.int .i64)).take i := by
    rw [← htk, List.take_take, Nat.min_eq_left (by omega)]
  have hres : (insAt zs i x).map (Value.int .i64) = (zs.map (Value.int .i64)).take i ++ Value.int .i64 x :: (zs.map (Value.int .i64)).drop i := by
    unfold insAt; simp
  have hrl := insAt_len zs i x (by omega)
  by_cases room : zs.length + 1 ≤ cap
  · have H := Any2.slices_Insert_int_shift laysNm221 b 0 zs.length cap i g 0 1 1 (zs.map (Value.int .i64)) [.int .i64 x] w hi (by decide) room hcm hne hml rfl hcell
      (fun j hj => by rw [Nat.zero_add, hB.cell j, List.getElem?_eq_getElem (by omega)]; rfl) (fun j _ => hB.frozen _) hone (one_ints zs) (one_ints [x])
      3 3 1 cap (shape_blk hb) (by rw [shape_blk hB, hlen]) (by omega) (hb.frozen _) (hb.frozen _)
    refine H.mono ?_
    rintro e w' ⟨rfl, rfl⟩
    have hB' := (hB.drew.setCells ((zs.map (Value.int .i64)).drop i) (0 + (i + 1))).setCells [.int .i64 x] (0 + i)
    have f1 : Fr (fun k => k = b) w ((w.drew.setCells b (0 + (i + 1)) ((zs.map (Value.int .i64)).drop i)).setCells b (0 + i) [.int .i64 x]) :=
      ((Fr.refl _ w).drew.trans (setCells_fr b _ _ _) (fun _ _ h => h)).trans (setCells_fr b _ _ _) (fun _ _ h => h)
    have hp : putL (putL cur.toList (0 + (i + 1)) ((zs.map (Value.int .i64)).drop i)) (0 + i) [.int .i64 x] = (insAt zs i x).map (Value.int .i64) ++ cur.toList.drop (zs.length + 1) := by
      have hd : ((zs.map (Value.int .i64)).drop i).length = zs.length - i := by simp
      rw [putL_eq _ _ cur.toList (by rw [hd]; omega)]
      have e1 : 0 + (i + 1) + ((zs.map (Value.int .i64)).drop i).length = zs.length + 1 := by rw [hd]; omega
      rw [e1]
      have lt : (cur.toList.take (0 + (i + 1))).length = i + 1 := by rw [List.length_take]; omega
      rw [putL_eq _ _ _ (by simp only [List.length_append, List.length_cons, List.length_nil, lt]; omega)]
      simp only [Nat.zero_add, List.length_cons, List.length_nil, List.append_assoc]
      rw [Nat.zero_add] at lt
      rw [List.take_append_of_le_length (by omega), List.take_take, Nat.min_eq_left (by omega), List.drop_left' lt, hti, hres]
      simp
    rw [hp] at hB'
    refine ⟨_, rfl, ?_, f1.ext ext (fun k hk => by subst hk; exact hbB), fun k hk hn => ⟨f1.block k hk (fun e => hn (by subst e; rfl)), hn⟩, f1.size⟩
    refine ⟨by simp, Or.inr ⟨b, cap, _, by rw [hrl], hbB, hB', by omega, hcm, ?_, ?_⟩⟩
    · simp [hrl]; simp at hlen; omega
    · rw [Nat.mul_one]
      simp [List.take_left']
  · have hcap : cap = zs.length := by omega
    have H := Any2.slices_Insert_int_grow laysNm221 b 0 zs.length cap i g 0 1 1 (zs.map (Value.int .i64)) [.int .i64 x] w hi (by decide) hnc (by omega) (by omega) hml rfl hcell hone (one_ints zs) (one_ints [x])
    refine H.mono ?_
    rintro e w' ⟨rfl, rfl⟩
    have hge := grownCap_ge w (zs.length + 1) cap (laysNm221_ren.t 3)
    have hle := grownCap_le_maxLen w (zs.length + 1) cap (laysNm221_ren.t 3) (by unfold maxLen; omega)
    have h3 : laysNm221_ren.t 3 = 3 := rfl
    rw [h3] at hge hle ⊢
    generalize grownCap w (zs.length + 1) cap 3 = G at *
    generalize hC : ((zs.map (Value.int .i64)).take i).toArray ++ Builtin.zeroCells (Value.int .i64 0).cells (zs.length + 1 - i) ++ Builtin.zeroCells (Value.int .i64 0).cells (G - (zs.length + 1)) = C at *
    have hCl : C.toList.length = G := by
      rw [← hC]
      simp only [Array.toList_append, List.length_append, zcells]
      simp
      omega
    have hCt : C.toList.take i = (zs.map (Value.int .i64)).take i := by
      rw [← hC]
      simp only [Array.toList_append, List.append_assoc]
      rw [List.take_left' (by simp; omega)]
    have hN : Blk (w.alloc (.cells C 3)) w.heap.size 3 C.toList := by
      have := Blk.new w 3 C.toList
      simpa using this
    have hB' := (hN.drew.setCells [.int .i64 x] i).drew.setCells ((zs.map (Value.int .i64)).drop i) (i + 1)
    have f1 : Fr (fun k => k = w.heap.size) w (((w.alloc (.cells C 3)).drew.setCells w.heap.size i [.int .i64 x]).drew.setCells w.heap.size (i + 1) ((zs.map (Value.int .i64)).drop i)) :=
      ((((Fr.refl _ w).alloc _).drew.trans (setCells_fr w.heap.size _ _ _) (fun _ _ h => h)).drew).trans (setCells_fr w.heap.size _ _ _) (fun _ _ h => h)
    have hp : putL (putL C.toList i [.int .i64 x]) (i + 1) ((zs.map (Value.int .i64)).drop i) = (insAt zs i x).map (Value.int .i64) ++ C.toList.drop (zs.length + 1) := by
      have hd : ((zs.map (Value.int .i64)).drop i).length = zs.length - i := by simp
      rw [putL_eq _ _ C.toList (by simp only [List.length_cons, List.length_nil]; omega)]
      have lt : (C.toList.take i ++ [Value.int .i64 x]).length = i + 1 := by simp; simp at hCl; omega
      have l2 : (C.toList.take i ++ [Value.int .i64 x] ++ C.toList.drop (i + [Value.int .i64 x].length)).length = G := by
        rw [List.length_append, lt]; simp; simp at hCl; omega
      rw [putL_eq _ _ _ (by rw [hd, l2]; omega)]
      rw [List.take_left' lt, hd]
      have e1 : (C.toList.take i ++ [Value.int .i64 x] ++ C.toList.drop (i + [Value.int .i64 x].length)).drop (i + 1 + (zs.length - i)) = C.toList.drop (zs.length + 1) := by
        rw [List.drop_append, lt, List.drop_eq_nil_of_le (by rw [lt]; omega), List.nil_append, List.drop_drop]
        congr 1
        simp only [List.length_cons, List.length_nil]
        omega
      rw [e1, hCt, hres]
      simp
    rw [hp] at hB'
    refine ⟨_, rfl, ?_, f1.ext ext (fun k hk => by subst hk; exact ext.size), fun k hk hn => ⟨f1.block k hk (by omega), fun e => by injection e with e; simp at e; omega⟩, f1.size⟩
    refine ⟨by simp, Or.inr ⟨w.heap.size, G, _, by rw [hrl], ext.size, hB', by omega, hle, ?_, ?_⟩⟩
    · simp [hrl]; simp at hCl; omega
    · rw [Nat.mul_one]
      simp [List.take_left']
end Go.Proofs.YtolengkegjipaaaGreat


/- A set that is added to; Flush. Conditions: those that each theorem names. -/
namespace Go.Proofs.YtolengkegjipaaaGreat
open Go.ChangeShapes Go.WideShapes Go.ChangeAt Go.RowKit
set_option linter.unusedVariables false
theorem insert_of (w0 w : World) (v : Value) (g : Nat) (x : Int) (zs : List Int) (i : Nat) (hi : i ≤ zs.length) (hz : zs.length ≤ 1000000) (hr : Row w w0.heap.size 3 .i64 v zs) (ext : Ext w0 w) (hb : Blk w g 3 [.int .i64 x]) (hg : v.ownBlock ≠ some g) :
    Calls Tryz.prog 128 #[v, .int .i64 (i : Int), .slice (some ⟨g, 0, none⟩) 1 1] w (RowOnto w0 w v (insAt zs i x)) := by
  have hc : w.cell? ⟨g, 0, none⟩ = some (.int .i64 x) := by rw [hb.cell 0]; rfl
  by_cases h0 : zs = []
  · subst h0
    obtain rfl : i = 0 := by simpa using hi
    exact insert_empty w0 w v g x hr ext hc
  · have hl : 0 < zs.length := List.length_pos_iff.2 h0
    by_cases he : i = zs.length
    · subst he
      have := insert_end w0 w v g x zs hl hz hr ext hc
      unfold insAt
      rw [List.take_length, List.drop_length]
      exact this
    · exact insert_mid w0 w v g x zs i (by omega) hz hr ext hb hg
theorem bsearch_of (w : World) (B : Nat) (v : Value) (x : Int) (zs : List Int) (hz : zs.length ≤ 1000000) (hr : Row w B 3 .i64 v zs) (hs : zs.Pairwise (· ≤ ·)) :
    Calls Tryz.prog 127 #[v, .int .i64 x] w fun e w' => e = .returned (.tuple #[.int .i64 ((zs.countP (· < x) : Nat) : Int), .bool (zs.contains x)]) ∧ ∃ q, w' = w.drewN q := by
  by_cases h0 : zs = []
  · subst h0
    obtain ⟨A, c, rfl, _, _, _, _, _⟩ := (RowN.of_row hr).form (by decide)
    refine (bsearch_empty A c x w).mono ?_
    rintro e w' ⟨rfl, rfl⟩
    exact ⟨rfl, 0, rfl⟩
  · have hl : 0 < zs.length := List.length_pos_iff.2 h0
    obtain ⟨b, c, rfl, hlc, hcm, _, _⟩ := (RowN.of_row hr).at_ hl
    have h := Any.slices_BinarySearch_int laysNm225 b 0 zs.length c zs x w (Nat.le_refl _) (by omega) (fun j hj => by
      rw [Nat.zero_add]; exact (RowN.of_row hr).cell (by omega)) (by rw [List.take_length]; exact hs)
    rw [List.take_length] at h
    exact h
/-- A set with a word added. -/
def setAdd (l : List Int) (x : Int) : List Int := if l.contains x = true then l else insAt l (l.countP (· < x)) x
theorem drewN_heap (w : World) (q : Nat) : (w.drewN q).heap = w.heap := by
  induction q with
  | zero => rfl
  | succ q ih => exact ih
/-- What adding to a set leaves. -/
def Added (w0 w : World) (v : Value) (gf t : Nat) (x : Int) (zs : List Int) (e : Ending) (w' : World) : Prop :=
  (∃ u, e = .returned u) ∧ ((zs.contains x = true ∧ Ext w w') ∨ (zs.contains x = false ∧ ∃ v' w1, w' = w1.setCell ⟨gf, t, none⟩ v' ∧ Row w1 w0.heap.size 3 .i64 v' (insAt zs (zs.countP (· < x)) x) ∧ Ext w0 w1 ∧ (∀ g, g < w.heap.size → v.ownBlock ≠ some g → w1.heap[g]? = w.heap[g]? ∧ v'.ownBlock ≠ some g) ∧ w.heap.size ≤ w1.heap.size))
set_option maxRecDepth 100000 in
set_option maxHeartbeats 400000 in
theorem add_of (w0 w : World) (v : Value) (gf t : Nat) (x : Int) (zs : List Int) (hz : zs.length ≤ 1000000) (hs : zs.Pairwise (· ≤ ·)) (hr : Row w w0.heap.size 3 .i64 v zs) (ext : Ext w0 w) (hc : w.cell? ⟨gf, t, none⟩ = some v) (hfz : w.frozen? ⟨gf, t, none⟩ = false) (hgf : v.ownBlock ≠ some gf) :
    Calls Tryz.prog 124 #[.pointer (some ⟨gf, t, none⟩), .int .i64 x] w (Added w0 w v gf t x zs) := by
  obtain ⟨A, c, hv, _, _, _, _, _⟩ := (RowN.of_row hr).form (by decide)
  have hlt : gf < w.heap.size := World.block_lt_of_cell? w ⟨gf, t, none⟩ hc
  have hcnt : zs.countP (· < x) ≤ zs.length := List.countP_le_length
  have HB := Lib.hid (bsearch_of w w0.heap.size v x zs hz hr hs)
  have HI := Lib.hid (fun (W : World) (e : W.heap = w.heap) (xt : Ext w W) => insert_of w0 (W.alloc (.cells #[.int .i64 x] 3)) v W.heap.size x zs (zs.countP (· < x)) hcnt hz (hr.ext (xt.alloc _)) ((ext.trans xt).alloc _) (Blk.new W 3 [.int .i64 x]) (fun h => by
    have := (World.ownsRow.lt hr _ h).2
    rw [e] at this
    omega))
  have hv' : v = .slice A zs.length c := hv
  clear hv
  generalize hN : zs.length = n at *
  generalize hP : zs.countP (· < x) = pc at *
  generalize hQ : zs.contains x = qc at *
  have HP := Lib.hid hP
  have HQ := Lib.hid hQ
  clear hP hQ hN hr hs
  subst hv'
  go_enter Tryz.func124, Tryz.ntmps124
  go_wp2_with fail
  refine HB.out.mono ?_
  rintro e w1 ⟨rfl, q, hq⟩
  have e1 : w1.heap = w.heap := by rw [hq]; exact drewN_heap w q
  have x1 : Ext w w1 := by rw [hq]; exact drewN_ext w q
  clear hq HB
  cases qc with
  | true =>
    go_wp2_with fail
    go_end0
    exact ⟨⟨_, rfl⟩, Or.inl ⟨HQ.out, x1⟩⟩
  | false =>
    have hc1 : w1.cell? ⟨gf, t, none⟩ = some (.slice A n c) := by rw [← hc]; exact World.cell?_of_block (by rw [e1])
    have hi := HI.out w1 e1 x1
    have HIn := Lib.hid hi
    have HE1 := Lib.hid e1
    clear hi HI hc e1
    go_wp2_with fail
    refine HIn.out.mono ?_
    rintro e w2 ⟨v', rfl, h1, h2, h3, h4⟩
    have e1 := HE1.out
    have hb := h3 gf (by simp [e1]; omega) hgf
    have hc2 : ∃ u, w2.cell? ⟨gf, t, none⟩ = some u ∧ w2.frozen? ⟨gf, t, none⟩ = false := by
      have e2 : w2.heap[gf]? = w.heap[gf]? := by
        rw [hb.1, Below.heap_alloc w1 _ gf (by rw [e1]; exact hlt), e1]
      refine ⟨.slice A n c, ?_, ?_⟩
      · rw [← hc1]
        exact World.cell?_of_block (by rw [e2, e1])
      · rw [← hfz]
        simp [World.frozen?, e2]
    obtain ⟨u, hcu, hfu⟩ := hc2
    obtain ⟨A', c', hvr, _, _, _, _, _⟩ := (RowN.of_row h1).form (by decide)
    have H1 := Lib.hid h1
    have H3 := Lib.hid h3
    clear h1 h3 hb e1
    generalize hL : (insAt zs pc x).length = L at *
    clear hL
    subst hvr
    go_wp2_with fail
    go_end0
    have e1 := HE1.out
    refine ⟨⟨_, rfl⟩, Or.inr ⟨HQ.out, _, w2, rfl, ?_, h2, fun g hg hne => ?_, by simp [e1] at h4; omega⟩⟩
    · rw [HP.out]
      exact H1.out
    · obtain ⟨a1, a2⟩ := H3.out g (by simp [e1]; omega) hne
      exact ⟨by rw [a1, Below.heap_alloc w1 _ g (by rw [e1]; exact hg), e1], a2⟩
end Go.Proofs.YtolengkegjipaaaGreat


/- Flush, Pending, Open of the device. Conditions: those that each theorem names. -/
namespace Go.Proofs.YtolengkegjipaaaGreat
open Go.ChangeShapes Go.WideShapes Go.ChangeAt Go.RowKit
set_option linter.unusedVariables false
theorem set_getD_self (l : List (List Int)) (t : Nat) (ht : t < l.length) : l.set t (l.getD t []) = l := by
  rw [List.getD_eq_getElem?_getD, List.getElem?_eq_getElem ht]
  simp
set_option maxRecDepth 100000 in
set_option maxHeartbeats 400000 in
theorem flush_ok (w0 w : World) (D : DevB) (s : DSt) (ext : Ext w0 w) (h : IsDev w0.heap.size w D s) (t p : Nat) (ht : t < s.T) (hp : p < s.n) (hz : (s.fl.getD t []).length ≤ 1000000) (hs : (s.fl.getD t []).Pairwise (· ≤ ·)) :
    Calls Tryz.prog 115 #[D.ptr, .int .i64 (t : Int), .int .i64 (p : Int)] w (DevBack w0.heap.size w D { s with fl := s.fl.set t (setAdd (s.fl.getD t []) (p : Int)) } (.returned (.int .i64 0))) := by
  unfold DevB.ptr
  have hT1 := h.T1
  have hn1 := h.n1
  have HT := Lib.hid (askT_ok _ _ _ _ (t : Int) (by omega) (by omega) w h.T1 h.c2)
  have HL := Lib.hid (askL_ok _ _ _ _ (p : Int) (by omega) (by omega) w h.n1 h.c0)
  have c2 := h.c2
  have hlt : t < D.its.length := by rw [h.lits]; exact ht
  have hrow := h.fl t ht
  have hcell : w.cell? ⟨D.gf, t, none⟩ = some (D.its.getD t undef) := by
    rw [h.flb.cell t, List.getD_eq_getElem?_getD]
    simp [hlt]
  have HA := Lib.hid (add_of w0 w (D.its.getD t undef) D.gf t (p : Int) (s.fl.getD t []) hz hs hrow ext hcell (h.flb.frozen t) (h.flb.ne_row (RowN.of_row hrow) (by decide)))
  have H := Lib.hid h
  clear h hrow hcell hz hs
  go_enter Tryz.func115, Tryz.ntmps115
  go_wp2_with fail
  refine HT.out.mono ?_
  rintro e w' ⟨rfl, rfl⟩
  go_wp2_with fail
  refine HL.out.mono ?_
  rintro e w' ⟨rfl, rfl⟩
  go_wp2_with fail
  refine HA.out.mono ?_
  rintro e w2 ⟨⟨u, rfl⟩, had⟩
  have HAd := Lib.hid had
  clear had
  go_wp2_with fail
  go_ret
  have h := H.out
  rcases HAd.out with ⟨hq, x⟩ | ⟨hq, v', w1, rfl, h1, h2, h3, h4⟩
  · have e1 : setAdd (s.fl.getD t []) (p : Int) = s.fl.getD t [] := by unfold setAdd; rw [if_pos hq]
    rw [e1, set_getD_self s.fl t (by rw [h.lfl]; exact ht)]
    exact ⟨rfl, D, rfl, h.ext x, Fr.of_ext x, fun g hg => Or.inl hg⟩
  · have e1 : setAdd (s.fl.getD t []) (p : Int) = insAt (s.fl.getD t []) ((s.fl.getD t []).countP (· < (p : Int))) (p : Int) := by unfold setAdd; rw [if_neg (by rw [hq]; decide)]
    rw [e1]
    have fr1 : Fr (fun g => (D.its.getD t undef).ownBlock = some g) w w1 := ⟨h2.os.trans ext.os.symm, h2.tape.trans ext.tape.symm, h2.output.trans ext.output.symm, h4, fun g hg hn => (h3 g hg hn).1⟩
    have hS : ∀ g, (D.its.getD t undef).ownBlock = some g → D.foot g := fun g hg => Or.inr (Or.inr (Or.inr (Or.inr (Or.inr ⟨t, hlt, hg⟩))))
    have hnew := h.putNew t ht fr1 v' _ h1 (fun g hg hn => (h3 g hg hn).2)
    refine ⟨rfl, { D with its := D.its.set t v' }, rfl, hnew, ?_, fun g hg => ?_⟩
    · exact (fr1.mono (fun g _ hg => hS g hg)).setCell (Or.inl (Or.inr (Or.inr (Or.inr (Or.inl rfl))))) _
    · rcases foot_putSet hg with hg | hg
      · exact Or.inl hg
      · by_cases c : g < w.heap.size
        · by_cases c2 : (D.its.getD t undef).ownBlock = some g
          · exact Or.inl (hS g c2)
          · exact absurd hg (h3 g c c2).2
        · exact Or.inr (by omega)
theorem flush_thread (B : Nat) (w : World) (D : DevB) (s : DSt) (h : IsDev B w D s) (t p : Int) (ha : t < 0 ∨ (s.T : Int) ≤ t) :
    Calls Tryz.prog 115 #[D.ptr, .int .i64 t, .int .i64 p] w fun e w' => e = .returned (.int .i64 1) ∧ w = w' := by
  unfold DevB.ptr
  have HC : Hid (Calls Tryz.prog 122 #[.pointer (some ⟨D.gd, 0, none⟩), .int .i64 t] w fun e w' => e = .returned (.int .i64 1) ∧ w = w') := by
    rcases ha with ha | ha
    · exact Lib.hid (askT_lo _ _ _ _ t ha w h.T1 h.c2)
    · exact Lib.hid (askT_hi _ _ _ _ t (by omega) w h.T1 h.c2)
  clear h
  go_enter Tryz.func115, Tryz.ntmps115
  go_wp2_with fail
  refine HC.out.mono ?_
  rintro e w' ⟨rfl, rfl⟩
  go_wp2_with fail
  go_ret
  exact ⟨rfl, rfl⟩
theorem flush_line (B : Nat) (w : World) (D : DevB) (s : DSt) (h : IsDev B w D s) (t : Nat) (p : Int) (ht : t < s.T) (ha : p < 0 ∨ (s.n : Int) ≤ p) :
    Calls Tryz.prog 115 #[D.ptr, .int .i64 (t : Int), .int .i64 p] w fun e w' => e = .returned (.int .i64 5) ∧ w = w' := by
  unfold DevB.ptr
  have hT1 := h.T1
  have HT := Lib.hid (askT_ok _ _ _ _ (t : Int) (by omega) (by omega) w h.T1 h.c2)
  have HC : Hid (Calls Tryz.prog 123 #[.pointer (some ⟨D.gd, 0, none⟩), .int .i64 p] w fun e w' => e = .returned (.int .i64 5) ∧ w = w') := by
    rcases ha with ha | ha
    · exact Lib.hid (askL_lo _ _ _ _ p ha w h.n1 h.c0)
    · exact Lib.hid (askL_hi _ _ _ _ p (by omega) w h.n1 h.c0)
  clear h
  go_enter Tryz.func115, Tryz.ntmps115
  go_wp2_with fail
  refine HT.out.mono ?_
  rintro e w' ⟨rfl, rfl⟩
  go_wp2_with fail
  refine HC.out.mono ?_
  rintro e w' ⟨rfl, rfl⟩
  go_wp2_with fail
  go_ret
  exact ⟨rfl, rfl⟩
set_option maxHeartbeats 400000 in
theorem open_ok (w : World) (A : Option Addr) (m c T : Nat) (zs : List Int) (hl : zs.length = m * 8) (m0 : 0 < m) (m1 : m ≤ 262144) (hcap : m * 8 ≤ c) (hcm : c ≤ 9223372036854775807) (hz : Lim zs 18446744073709551616) (hA : Ints w .u64 A zs) (T0 : 0 < T) (T1 : T ≤ 64) :
    Calls Tryz.prog 26 #[.slice A (m * 8) c, .int .i64 (T : Int)] w (DevNew w ⟨m, T, zs, zs, List.replicate m 0, List.replicate T []⟩) := by
  have HM := Lib.hid (mayBe_ok (T : Int) (by omega) (by omega) w)
  have HC := Lib.hid (cut_of A m c zs w hl m1 hcap hcm hz hA)
  clear hA hl
  go_enter Tryz.func26, Tryz.ntmps26
  go_wp2_with fail
  refine HM.out.mono ?_
  rintro e w' ⟨rfl, rfl⟩
  go_wp2_with fail
  refine HC.out.mono ?_
  rintro e w1 ⟨v, rfl, hr, x1⟩
  obtain ⟨gk, ck, rfl, _, _, _, _⟩ := hr.at_ m0
  have HO := Lib.hid (over_of w.heap.size w1 gk ck m T zs m0 m1 T0 T1 hz x1.size hr)
  clear hr
  have t1 : decide ((m : Int) = 0) = false := by simp; omega
  go_wp2_with fail
  refine HO.out.mono ?_
  rintro e w2 ⟨D, rfl, h1, h2, h3⟩
  go_wp2_with fail
  go_ret2
  exact ⟨D, rfl, h1, x1.trans h2⟩
end Go.Proofs.YtolengkegjipaaaGreat

