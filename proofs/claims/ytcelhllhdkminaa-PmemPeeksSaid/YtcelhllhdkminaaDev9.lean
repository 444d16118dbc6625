/- slices.Insert at a row of the call's own; a set that is added to; Flush. Conditions: those that each theorem names. -/
import Derived.Test.YtcelhllhdkminaaDev8
import Derived.Test.YtcelhllhdkminaaShelf
namespace Go.Proofs.Ytcelhllhdkminaa
open Go.ChangeShapes Go.WideShapes Go.ChangeAt Go.RowKit
set_option linter.unusedVariables false
/-- Cells put one behind the other. -/
def putL (cs : List Value) : Nat → List Value → List Value
  | _, [] => cs
  | o, v :: vs => putL (cs.set o v) (o + 1) vs
theorem putL_eq : ∀ (vs : List Value) (o : Nat) (cs : List Value), o + vs.length ≤ cs.length → putL cs o vs = cs.take o ++ vs ++ cs.drop (o + vs.length)
  | [], o, cs, _ => by simp [putL]
  | v :: vs, o, cs, h => by
    simp only [List.length_cons] at h
    rw [putL, putL_eq vs (o + 1) (cs.set o v) (by rw [List.length_set]; omega)]
    have h1 : (cs.set o v).take (o + 1) = cs.take o ++ [v] := by
      rw [List.take_add_one, List.getElem?_set_self (by omega), List.take_set_of_le (Nat.le_refl _)]; rfl
    have h2 : (cs.set o v).drop (o + 1 + vs.length) = cs.drop (o + 1 + vs.length) := List.drop_set_of_lt (by omega)
    rw [h1, h2]
    simp [Nat.add_assoc, Nat.add_comm 1]
theorem Blk.setCells {g : Nat} {t : TypeId} : ∀ (vs : List Value) (o : Nat) {w : World} {cs : List Value}, Blk w g t cs → Blk (w.setCells g o vs) g t (putL cs o vs)
  | [], _, _, _, h => h
  | v :: vs, o, _, _, h => Blk.setCells vs (o + 1) (h.set o v)
theorem setCells_fr (g : Nat) : ∀ (vs : List Value) (o : Nat) (w : World), Fr (fun k => k = g) w (w.setCells g o vs)
  | [], _, w => Fr.refl _ w
  | v :: vs, o, w => ((Fr.refl (fun k => k = g) w).setCell (p := ⟨g, o, none⟩) (Or.inl rfl) v).trans (setCells_fr g vs (o + 1) _) (fun _ _ h => h)
theorem Blk.drew {g : Nat} {t : TypeId} {w : World} {cs : List Value} (h : Blk w g t cs) : Blk w.drew g t cs := h
theorem zcells (n : Nat) : (Builtin.zeroCells (Value.int .i64 0).cells n).toList.length = n := by
  show (Builtin.zeroCells #[Value.int .i64 0] n).toList.length = n
  simp [Builtin.zeroCells]
/-- The list with a word put in. -/
def insAt (zs : List Int) (i : Nat) (x : Int) : List Int := zs.take i ++ x :: zs.drop i
theorem insAt_len (zs : List Int) (i : Nat) (x : Int) (hi : i ≤ zs.length) : (insAt zs i x).length = zs.length + 1 := by unfold insAt; simp; omega
theorem one_ints (l : List Int) : ∀ v ∈ l.map (Value.int .i64), v.oneCell' = true := fun v hv => by
  obtain ⟨z, _, rfl⟩ := List.mem_map.1 hv
  rfl
theorem shape_blk {g : Nat} {t : TypeId} {w : World} {cs : List Value} (h : Blk w g t cs) : w.shape? g = some (t, cs.length) := by
  unfold Blk at h
  simp [World.shape?, h]
set_option maxRecDepth 100000 in
set_option maxHeartbeats 400000 in
theorem insert_end (w0 w : World) (v : Value) (g : Nat) (x : Int) (zs : List Int) (h0 : 0 < zs.length) (hz : zs.length ≤ 1000000) (hr : Row w w0.heap.size 3 .i64 v zs) (ext : Ext w0 w) (hc : w.cell? ⟨g, 0, none⟩ = some (.int .i64 x)) :
    Calls Try.prog 117 #[v, .int .i64 (zs.length : Int), .slice (some ⟨g, 0, none⟩) 1 1] w (RowOnto w0 w v (zs ++ [x])) := by
  obtain ⟨b, c, rfl, hlc, hcm, _, _⟩ := (RowN.of_row hr).at_ h0
  unfold maxLen at hcm
  have HR := Lib.hid (RowN.of_row hr)
  clear hr
  generalize hn : zs.length = n at *
  have HN := Lib.hid hn
  clear hn
  rcases Nat.lt_or_eq_of_le hlc with hlt | heq
  · go_enter Try.func117, Try.ntmps117
    go_wp2_with ((at_builtin; refine Hid.out ?_))
    refine Lib.hid ?_
    refine wpList_appN rfl _ _ 40 rfl 3 .i64 1 8 (.int .i64 0) int_info rfl (by decide) (by decide) Try.underlying40 w0 w _ n zs (by rfl) HR.out ext ⟨g, 0, none⟩ 1 1 [x] (by rfl) rfl (one_at hc) (by omega) ?_
    intro v' w' h1 h2 h3 h4
    go_wp2_with fail
    go_ret
    exact ⟨v', rfl, h1.row, h2, h3, h4⟩
  · subst heq
    go_enter Try.func117, Try.ntmps117
    go_wp2_with ((at_builtin; refine Hid.out ?_))
    refine Lib.hid ?_
    refine wpList_appN rfl _ _ 40 rfl 3 .i64 1 8 (.int .i64 0) int_info rfl (by decide) (by decide) Try.underlying40 w0 w _ n zs (by rfl) HR.out ext ⟨g, 0, none⟩ 1 1 [x] (by rfl) rfl (one_at hc) (by omega) ?_
    intro v' w' h1 h2 h3 h4
    go_wp2_with fail
    go_ret
    exact ⟨v', rfl, h1.row, h2, h3, h4⟩
set_option maxRecDepth 100000 in
set_option maxHeartbeats 400000 in
theorem insert_mid (w0 w : World) (v : Value) (g : Nat) (x : Int) (zs : List Int) (i : Nat) (hi : i < zs.length) (hz : zs.length ≤ 1000000) (hr : Row w w0.heap.size 3 .i64 v zs) (ext : Ext w0 w) (hb : Blk w g 3 [.int .i64 x]) (hg : v.ownBlock ≠ some g) :
    Calls Try.prog 117 #[v, .int .i64 (i : Int), .slice (some ⟨g, 0, none⟩) 1 1] w (RowOnto w0 w v (insAt zs i x)) := by
  rcases hr.2 with ⟨_, h0⟩ | ⟨b, cap, cur, rfl, hbB, hh, hnc, hcm, hcs, htk⟩
  · omega
  rw [Nat.mul_one] at hcs htk
  have hbl : b < w.heap.size := (Array.getElem?_eq_some_iff.1 hh).1
  have hne : g ≠ b := fun e => hg (by rw [e]; rfl)
  have hB : Blk w b 3 cur.toList := by unfold Blk; simpa using hh
  have hlen : cur.toList.length = cap := by simpa using hcs
  have hml : (zs.map (Value.int .i64)).length = zs.length := by simp
  have hcell : ∀ j u, (zs.map (Value.int .i64))[j]? = some u → w.cell? ⟨b, 0 + j, none⟩ = some u := fun j u hj => by
    rw [Nat.zero_add, hB.cell j, ← hj, ← htk, List.getElem?_take]
    have : j < zs.length := by
      have := (List.getElem?_eq_some_iff.1 hj).1
      simpa using this
    rw [if_pos this]
  have hone : ∀ j u, [Value.int .i64 x][j]? = some u → w.cell? ⟨g, 0 + j, none⟩ = some u := fun j u hj => by
    rw [Nat.zero_add, hb.cell j]; exact hj
  have hti : cur.toList.take i = (zs.map (Value.int .i64)).take i := by
    rw [← htk, List.take_take, Nat.min_eq_left (by omega)]
  have hres : (insAt zs i x).map (Value.int .i64) = (zs.map (Value.int .i64)).take i ++ Value.int .i64 x :: (zs.map (Value.int .i64)).drop i := by
    unfold insAt; simp
  have hrl := insAt_len zs i x (by omega)
  by_cases room : zs.length + 1 ≤ cap
  · have H := Any2.slices_Insert_int_shift laysNm221 b 0 zs.length cap i g 0 1 1 (zs.map (Value.int .i64)) [.int .i64 x] w hi (by decide) room hcm hne hml rfl hcell
      (fun j hj => by rw [Nat.zero_add, hB.cell j, List.getElem?_eq_getElem (by omega)]; rfl) (fun j _ => hB.frozen _) hone (one_ints zs) (one_ints [x])
      3 3 1 cap (shape_blk hb) (by rw [shape_blk hB, hlen]) (by omega) (hb.frozen _) (hb.frozen _)
    refine H.mono ?_
    rintro e w' ⟨rfl, rfl⟩
    have hB' := (hB.drew.setCells ((zs.map (Value.int .i64)).drop i) (0 + (i + 1))).setCells [.int .i64 x] (0 + i)
    have f1 : Fr (fun k => k = b) w ((w.drew.setCells b (0 + (i + 1)) ((zs.map (Value.int .i64)).drop i)).setCells b (0 + i) [.int .i64 x]) :=
      ((Fr.refl _ w).drew.trans (setCells_fr b _ _ _) (fun _ _ h => h)).trans (setCells_fr b _ _ _) (fun _ _ h => h)
    have hp : putL (putL cur.toList (0 + (i + 1)) ((zs.map (Value.int .i64)).drop i)) (0 + i) [.int .i64 x] = (insAt zs i x).map (Value.int .i64) ++ cur.toList.drop (zs.length + 1) := by
      have hd : ((zs.map (Value.int .i64)).drop i).length = zs.length - i := by simp
      rw [putL_eq _ _ cur.toList (by rw [hd]; omega)]
      have e1 : 0 + (i + 1) + ((zs.map (Value.int .i64)).drop i).length = zs.length + 1 := by rw [hd]; omega
      rw [e1]
      have lt : (cur.toList.take (0 + (i + 1))).length = i + 1 := by rw [List.length_take]; omega
      rw [putL_eq _ _ _ (by simp only [List.length_append, List.length_cons, List.length_nil, lt]; omega)]
      simp only [Nat.zero_add, List.length_cons, List.length_nil, List.append_assoc]
      rw [Nat.zero_add] at lt
      rw [List.take_append_of_le_length (by omega), List.take_take, Nat.min_eq_left (by omega), List.drop_left' lt, hti, hres]
      simp
    rw [hp] at hB'
    refine ⟨_, rfl, ?_, f1.ext ext (fun k hk => by subst hk; exact hbB), fun k hk hn => ⟨f1.block k hk (fun e => hn (by subst e; rfl)), hn⟩, f1.size⟩
    refine ⟨by simp, Or.inr ⟨b, cap, _, by rw [hrl], hbB, hB', by omega, hcm, ?_, ?_⟩⟩
    · simp [hrl]; simp at hlen; omega
    · rw [Nat.mul_one]
      simp [List.take_left']
  · have hcap : cap = zs.length := by omega
    have H := Any2.slices_Insert_int_grow laysNm221 b 0 zs.length cap i g 0 1 1 (zs.map (Value.int .i64)) [.int .i64 x] w hi (by decide) hnc (by omega) (by omega) hml rfl hcell hone (one_ints zs) (one_ints [x])
    refine H.mono ?_
    rintro e w' ⟨rfl, rfl⟩
    have hge := grownCap_ge w (zs.length + 1) cap (laysNm221_ren.t 3)
    have hle := grownCap_le_maxLen w (zs.length + 1) cap (laysNm221_ren.t 3) (by unfold maxLen; omega)
    have h3 : laysNm221_ren.t 3 = 3 := rfl
    rw [h3] at hge hle ⊢
    generalize grownCap w (zs.length + 1) cap 3 = G at *
    generalize hC : ((zs.map (Value.int .i64)).take i).toArray ++ Builtin.zeroCells (Value.int .i64 0).cells (zs.length + 1 - i) ++ Builtin.zeroCells (Value.int .i64 0).cells (G - (zs.length + 1)) = C at *
    have hCl : C.toList.length = G := by
      rw [← hC]
      simp only [Array.toList_append, List.length_append, zcells]
      simp
      omega
    have hCt : C.toList.take i = (zs.map (Value.int .i64)).take i := by
      rw [← hC]
      simp only [Array.toList_append, List.append_assoc]
      rw [List.take_left' (by simp; omega)]
    have hN : Blk (w.alloc (.cells C 3)) w.heap.size 3 C.toList := by
      have := Blk.new w 3 C.toList
      simpa using this
    have hB' := (hN.drew.setCells [.int .i64 x] i).drew.setCells ((zs.map (Value.int .i64)).drop i) (i + 1)
    have f1 : Fr (fun k => k = w.heap.size) w (((w.alloc (.cells C 3)).drew.setCells w.heap.size i [.int .i64 x]).drew.setCells w.heap.size (i + 1) ((zs.map (Value.int .i64)).drop i)) :=
      ((((Fr.refl _ w).alloc _).drew.trans (setCells_fr w.heap.size _ _ _) (fun _ _ h => h)).drew).trans (setCells_fr w.heap.size _ _ _) (fun _ _ h => h)
    have hp : putL (putL C.toList i [.int .i64 x]) (i + 1) ((zs.map (Value.int .i64)).drop i) = (insAt zs i x).map (Value.int .i64) ++ C.toList.drop (zs.length + 1) := by
      have hd : ((zs.map (Value.int .i64)).drop i).length = zs.length - i := by simp
      rw [putL_eq _ _ C.toList (by simp only [List.length_cons, List.length_nil]; omega)]
      have lt : (C.toList.take i ++ [Value.int .i64 x]).length = i + 1 := by simp; simp at hCl; omega
      have l2 : (C.toList.take i ++ [Value.int .i64 x] ++ C.toList.drop (i + [Value.int .i64 x].length)).length = G := by
        rw [List.length_append, lt]; simp; simp at hCl; omega
      rw [putL_eq _ _ _ (by rw [hd, l2]; omega)]
      rw [List.take_left' lt, hd]
      have e1 : (C.toList.take i ++ [Value.int .i64 x] ++ C.toList.drop (i + [Value.int .i64 x].length)).drop (i + 1 + (zs.length - i)) = C.toList.drop (zs.length + 1) := by
        rw [List.drop_append, lt, List.drop_eq_nil_of_le (by rw [lt]; omega), List.nil_append, List.drop_drop]
        congr 1
        simp only [List.length_cons, List.length_nil]
        omega
      rw [e1, hCt, hres]
      simp
    rw [hp] at hB'
    refine ⟨_, rfl, ?_, f1.ext ext (fun k hk => by subst hk; exact ext.size), fun k hk hn => ⟨f1.block k hk (by omega), fun e => by injection e with e; simp at e; omega⟩, f1.size⟩
    refine ⟨by simp, Or.inr ⟨w.heap.size, G, _, by rw [hrl], ext.size, hB', by omega, hle, ?_, ?_⟩⟩
    · simp [hrl]; simp at hCl; omega
    · rw [Nat.mul_one]
      simp [List.take_left']
end Go.Proofs.Ytcelhllhdkminaa
