/- Layer 8: slices.Insert of one element into a row of the call's own. Conditions: those that each theorem names. -/
import Derived.Test.YthbngenjcgclgaaMod21
namespace Go.Proofs.Ythbngenjcgclgaa
open Go.ChangeShapes Go.WideShapes Go.ChangeAt Go.RowKit Go.Lib
set_option linter.unusedVariables false
/-- Cells put one behind the other. -/
def putC (cs : List Value) : Nat → List Value → List Value
  | _, [] => cs
  | o, v :: vs => putC (cs.set o v) (o + 1) vs
theorem putC_eq : ∀ (vs : List Value) (o : Nat) (cs : List Value), o + vs.length ≤ cs.length → putC cs o vs = cs.take o ++ (vs ++ cs.drop (o + vs.length))
  | [], o, cs, _ => by simp [putC]
  | v :: vs, o, cs, h => by
    simp only [List.length_cons] at h
    rw [putC, putC_eq vs (o + 1) (cs.set o v) (by rw [List.length_set]; omega)]
    have h1 : (cs.set o v).take (o + 1) = cs.take o ++ [v] := by
      rw [List.take_add_one, List.getElem?_set_self (by omega), List.take_set_of_le (Nat.le_refl _)]; rfl
    have h2 : (cs.set o v).drop (o + 1 + vs.length) = cs.drop (o + 1 + vs.length) := List.drop_set_of_lt (by omega)
    rw [h1, h2]
    simp [Nat.add_assoc, Nat.add_comm 1]
theorem blk_setCells {g : Nat} {t : TypeId} : ∀ (vs : List Value) (o : Nat) {w : World} {cs : List Value}, Blk w g t cs → Blk (w.setCells g o vs) g t (putC cs o vs)
  | [], _, _, _, h => h
  | v :: vs, o, _, _, h => blk_setCells vs (o + 1) (h.set o v)
theorem setCells_fr8 (g : Nat) : ∀ (vs : List Value) (o : Nat) (w : World), Fr (fun k => k = g) w (w.setCells g o vs)
  | [], _, w => Fr.refl _ w
  | v :: vs, o, w => ((Fr.refl (fun k => k = g) w).setCell (p := ⟨g, o, none⟩) (Or.inl rfl) v).trans (setCells_fr8 g vs (o + 1) _) (fun _ _ h => h)
theorem blk_drew {g : Nat} {t : TypeId} {w : World} {cs : List Value} (h : Blk w g t cs) : Blk w.drew g t cs := h
theorem shape_of {g : Nat} {t : TypeId} {w : World} {cs : List Value} (h : Blk w g t cs) : w.shape? g = some (t, cs.length) := by
  unfold Blk at h
  simp [World.shape?, h]
theorem put_room (cur cs vs : List Value) (a m K : Nat) (ha : a ≤ m) (hcs : cs.length = m) (hvs : vs.length = K) (htk : cur.take m = cs) (hroom : m + K ≤ cur.length) :
    putC (putC cur (a + K) (cs.drop a)) a vs = cs.take a ++ (vs ++ cs.drop a) ++ cur.drop (m + K) := by
  have hd : (cs.drop a).length = m - a := by rw [List.length_drop, hcs]
  rw [putC_eq _ (a + K) cur (by rw [hd]; omega), hd, show a + K + (m - a) = m + K by omega]
  have lt : (cur.take (a + K)).length = a + K := by rw [List.length_take]; omega
  rw [putC_eq vs a _ (by rw [List.length_append, lt]; omega), hvs]
  rw [List.take_append_of_le_length (by rw [lt]; omega), List.take_take, Nat.min_eq_left (by omega), List.drop_left' lt]
  have ht : cur.take a = cs.take a := by rw [← htk, List.take_take, Nat.min_eq_left ha]
  rw [ht]
  simp [List.append_assoc]
theorem put_grow (C cs vs : List Value) (a m K : Nat) (ha : a ≤ m) (hcs : cs.length = m) (hvs : vs.length = K) (hC : m + K ≤ C.length) (ht : C.take a = cs.take a) :
    putC (putC C a vs) (a + K) (cs.drop a) = cs.take a ++ (vs ++ cs.drop a) ++ C.drop (m + K) := by
  have hd : (cs.drop a).length = m - a := by rw [List.length_drop, hcs]
  rw [putC_eq vs a C (by omega), hvs, ← List.append_assoc]
  have lt : (C.take a ++ vs).length = a + K := by rw [List.length_append, List.length_take, hvs]; omega
  have ll : (C.take a ++ vs ++ C.drop (a + K)).length = C.length := by rw [List.length_append, lt, List.length_drop]; omega
  rw [putC_eq _ (a + K) _ (by rw [hd, ll]; omega), hd, List.take_left' lt, show a + K + (m - a) = m + K by omega]
  have e1 : (C.take a ++ vs ++ C.drop (a + K)).drop (m + K) = C.drop (m + K) := by
    rw [List.drop_append, lt, List.drop_eq_nil_of_le (by rw [lt]; omega), List.nil_append, List.drop_drop]
    congr 1
    omega
  rw [e1, ht]
  simp [List.append_assoc]
theorem flat_drop : ∀ (l : List Pr) (i : Nat), (flat l).drop (i * 2) = flat (l.drop i)
  | [], i => by simp [flat]
  | p :: l, 0 => by simp [flat]
  | p :: l, i + 1 => by
    rw [show (i + 1) * 2 = i * 2 + 1 + 1 by omega]
    simp [flat, flat_drop l i]
def insP (ps : List Pr) (i : Nat) (x : Pr) : List Pr := ps.take i ++ x :: ps.drop i
def insI (ps : List Int) (i : Nat) (x : Int) : List Int := ps.take i ++ x :: ps.drop i
theorem insP_len (ps : List Pr) (i : Nat) (x : Pr) (hi : i ≤ ps.length) : (insP ps i x).length = ps.length + 1 := by unfold insP; simp; omega
theorem insI_len (ps : List Int) (i : Nat) (x : Int) (hi : i ≤ ps.length) : (insI ps i x).length = ps.length + 1 := by unfold insI; simp; omega
def cellsP (ps : List Pr) : List Value := (flat ps).map (Value.int .u32)
def cellsI (ps : List Int) : List Value := ps.map (Value.int .u32)
theorem cellsP_ins (ps : List Pr) (i : Nat) (x : Pr) : cellsP (insP ps i x) = (cellsP ps).take (i * 2) ++ ([.int .u32 x.1, .int .u32 x.2] ++ (cellsP ps).drop (i * 2)) := by
  unfold cellsP insP
  rw [flat_append, List.map_append, ← flat_take, List.map_take]
  congr 1
  rw [← List.map_drop, flat_drop]
  rfl
theorem cellsI_ins (ps : List Int) (i : Nat) (x : Int) : cellsI (insI ps i x) = (cellsI ps).take i ++ ([.int .u32 x] ++ (cellsI ps).drop i) := by
  unfold cellsI insI
  simp
theorem cellsP_len (ps : List Pr) : (cellsP ps).length = ps.length * 2 := by unfold cellsP; rw [List.length_map, flat_len]
theorem cellsI_len (ps : List Int) : (cellsI ps).length = ps.length := by unfold cellsI; rw [List.length_map]
theorem cellsP_one (ps : List Pr) : ∀ v ∈ cellsP ps, v.oneCell' = true := fun v hv => by
  obtain ⟨z, _, rfl⟩ := List.mem_map.1 hv
  rfl
theorem cellsI_one (ps : List Int) : ∀ v ∈ cellsI ps, v.oneCell' = true := fun v hv => by
  obtain ⟨z, _, rfl⟩ := List.mem_map.1 hv
  rfl
/-- What an insertion leaves, of numbers. -/
def IOnto (w0 w : World) (v : Value) (ps : List Int) (e : Ending) (w' : World) : Prop := ∃ v', e = .returned v' ∧ IRow w' w0.heap.size v' ps ∧ Ext w0 w' ∧ (∀ g, g < w.heap.size → v.ownBlock ≠ some g → w'.heap[g]? = w.heap[g]? ∧ v'.ownBlock ≠ some g) ∧ w.heap.size ≤ w'.heap.size

set_option maxRecDepth 100000 in
set_option maxHeartbeats 1000000 in
theorem insMidI (w0 w : World) (v : Value) (g : Nat) (x : Int) (ps : List Int) (i : Nat) (hi : i < ps.length) (hz : ps.length ≤ 1000000) (hr : IRow w w0.heap.size v ps) (ext : Ext w0 w) (hb : Blk w g 32 [Value.int .u32 x]) (hg : v.ownBlock ≠ some g) :
    Calls Try.prog 33 #[v, .int .i64 (i : Int), .slice (some ⟨g, 0, none⟩) 1 1] w (IOnto w0 w v (insI ps i x)) := by
  rcases hr.2 with ⟨_, h0⟩ | ⟨b, cap, cur, rfl, hbB, hh, hnc, hcm, hcs, htk⟩
  · omega
  rw [Nat.mul_one] at hcs htk
  have hbl : b < w.heap.size := (Array.getElem?_eq_some_iff.1 hh).1
  have hne : g ≠ b := fun e => hg (by rw [e]; rfl)
  have hB : Blk w b 32 cur.toList := by unfold Blk; simpa using hh
  have hlen : cur.toList.length = cap := by simpa using hcs
  have hml := cellsI_len ps
  have htk' : cur.toList.take (ps.length) = cellsI ps := htk
  have hcell : ∀ j u, (cellsI ps)[j]? = some u → w.cell? ⟨b, j, none⟩ = some u := fun j u hj => by
    rw [hB.cell j, ← hj, ← htk', List.getElem?_take]
    have : j < ps.length := by
      have := (List.getElem?_eq_some_iff.1 hj).1
      omega
    rw [if_pos this]
  have hone : ∀ j u, [Value.int .u32 x][j]? = some u → w.cell? ⟨g, j, none⟩ = some u := fun j u hj => by
    rw [hb.cell j]; exact hj
  have h1v : ∀ u ∈ [Value.int .u32 x], u.oneCell' = true := fun u hu => by
    simp at hu
    rw [hu]; rfl
  have hres := cellsI_ins ps i x
  have hrl := insI_len ps i x (by omega)
  by_cases room : ps.length + 1 ≤ cap
  · have H := insRoomI b ps.length cap i g (cellsI ps) [Value.int .u32 x] w hi room hcm hne hml rfl hcell
      (fun j hj => by rw [hB.cell j, List.getElem?_eq_getElem (by omega)]; rfl) (fun j => hB.frozen _) hone (cellsI_one ps) h1v
      32 32 1 (cap) (shape_of hb) (by rw [shape_of hB, hlen]) (by omega) (fun j => hb.frozen _)
    refine H.mono ?_
    rintro e w' ⟨rfl, rfl⟩
    have hB' := blk_setCells [Value.int .u32 x] (i) (blk_setCells ((cellsI ps).drop (i)) (i + 1) (blk_drew hB))
    have f1 : Fr (fun k => k = b) w ((w.drew.setCells b (i + 1) ((cellsI ps).drop (i))).setCells b (i) [Value.int .u32 x]) :=
      ((Fr.refl _ w).drew.trans (setCells_fr8 b _ _ _) (fun _ _ h => h)).trans (setCells_fr8 b _ _ _) (fun _ _ h => h)
    have hp := put_room cur.toList (cellsI ps) [Value.int .u32 x] (i) (ps.length) 1 (by omega) hml rfl htk' (by omega)
    rw [show i + 1 = i + 1 by omega] at hp
    rw [hp, ← hres] at hB'
    refine ⟨_, rfl, ?_, f1.ext ext (fun k hk => by subst hk; exact hbB), fun k hk hn => ⟨f1.block k hk (fun e => hn (by subst e; rfl)), hn⟩, f1.size⟩
    refine ⟨?_, Or.inr ⟨b, cap, _, by rw [hrl], hbB, hB', by omega, hcm, ?_, ?_⟩⟩
    · exact by rw [List.length_map, Nat.mul_one]
    · have := cellsI_len (insI ps i x)
      simp only [List.size_toArray, List.length_append, this, hrl, List.length_drop, hlen]
      omega
    · rw [Nat.mul_one]
      have := cellsI_len (insI ps i x)
      show List.take _ (cellsI (insI ps i x) ++ _) = cellsI (insI ps i x)
      rw [List.take_left' this]
  · have H := insGrowI b ps.length cap i g (cellsI ps) [Value.int .u32 x] w hi hnc (by omega) (by omega) hml rfl hcell hone (cellsI_one ps) h1v
    refine H.mono ?_
    rintro e w' ⟨rfl, rfl⟩
    have hge := grownCap_ge w (ps.length + 1) cap 32
    have hle := grownCap_le_maxLen w (ps.length + 1) cap 32 (by unfold maxLen; omega)
    generalize grownCap w (ps.length + 1) cap 32 = G at *
    generalize hC : ((cellsI ps).take (i)).toArray ++ Builtin.zeroCells (Value.int .u32 0).cells (ps.length + 1 - i) ++ Builtin.zeroCells (Value.int .u32 0).cells (G - (ps.length + 1)) = C at *
    have hCl : C.toList.length = G := by
      rw [← hC]
      simp [Builtin.zeroCells, Value.cells]
      omega
    have hCt : C.toList.take (i) = (cellsI ps).take (i) := by
      rw [← hC]
      simp only [Array.toList_append, List.append_assoc]
      rw [List.take_left' (by simp; omega)]
    have hN : Blk (w.alloc (.cells C 32)) w.heap.size 32 C.toList := by
      have := Blk.new w 32 C.toList
      simpa using this
    have hB' := blk_setCells ((cellsI ps).drop (i)) (i + 1) (blk_drew (blk_setCells [Value.int .u32 x] (i) (blk_drew hN)))
    have f1 : Fr (fun k => k = w.heap.size) w (((w.alloc (.cells C 32)).drew.setCells w.heap.size (i) [Value.int .u32 x]).drew.setCells w.heap.size (i + 1) ((cellsI ps).drop (i))) :=
      ((((Fr.refl _ w).alloc _).drew.trans (setCells_fr8 w.heap.size _ _ _) (fun _ _ h => h)).drew).trans (setCells_fr8 w.heap.size _ _ _) (fun _ _ h => h)
    have hp := put_grow C.toList (cellsI ps) [Value.int .u32 x] (i) (ps.length) 1 (by omega) hml rfl (by omega) hCt
    rw [show i + 1 = i + 1 by omega] at hp
    rw [hp, ← hres] at hB'
    refine ⟨_, rfl, ?_, f1.ext ext (fun k hk => by subst hk; exact ext.size), fun k hk hn => ⟨f1.block k hk (by omega), fun e => by injection e with e; simp at e; omega⟩, f1.size⟩
    refine ⟨?_, Or.inr ⟨w.heap.size, G, _, by rw [hrl], ext.size, hB', by omega, hle, ?_, ?_⟩⟩
    · exact by rw [List.length_map, Nat.mul_one]
    · have := cellsI_len (insI ps i x)
      simp only [List.size_toArray, List.length_append, this, hrl, List.length_drop, hCl]
      omega
    · rw [Nat.mul_one]
      have := cellsI_len (insI ps i x)
      show List.take _ (cellsI (insI ps i x) ++ _) = cellsI (insI ps i x)
      rw [List.take_left' this]

set_option maxRecDepth 100000 in
set_option maxHeartbeats 1000000 in
theorem insMidP (w0 w : World) (v : Value) (g : Nat) (x : Pr) (ps : List Pr) (i : Nat) (hi : i < ps.length) (hz : ps.length ≤ 1000000) (hr : PRow w w0.heap.size v ps) (ext : Ext w0 w) (hb : Blk w g 46 [Value.int .u32 x.1, Value.int .u32 x.2]) (hg : v.ownBlock ≠ some g) :
    Calls Try.prog 38 #[v, .int .i64 (i : Int), .slice (some ⟨g, 0, none⟩) 1 1] w (POnto w0 w v (insP ps i x)) := by
  rcases hr.2 with ⟨_, h0⟩ | ⟨b, cap, cur, rfl, hbB, hh, hnc, hcm, hcs, htk⟩
  · omega
  skip
  have hbl : b < w.heap.size := (Array.getElem?_eq_some_iff.1 hh).1
  have hne : g ≠ b := fun e => hg (by rw [e]; rfl)
  have hB : Blk w b 46 cur.toList := by unfold Blk; simpa using hh
  have hlen : cur.toList.length = cap * 2 := by simpa using hcs
  have hml := cellsP_len ps
  have htk' : cur.toList.take (ps.length * 2) = cellsP ps := htk
  have hcell : ∀ j u, (cellsP ps)[j]? = some u → w.cell? ⟨b, j, none⟩ = some u := fun j u hj => by
    rw [hB.cell j, ← hj, ← htk', List.getElem?_take]
    have : j < ps.length * 2 := by
      have := (List.getElem?_eq_some_iff.1 hj).1
      omega
    rw [if_pos this]
  have hone : ∀ j u, [Value.int .u32 x.1, Value.int .u32 x.2][j]? = some u → w.cell? ⟨g, j, none⟩ = some u := fun j u hj => by
    rw [hb.cell j]; exact hj
  have h1v : ∀ u ∈ [Value.int .u32 x.1, Value.int .u32 x.2], u.oneCell' = true := fun u hu => by
    simp at hu
    rcases hu with rfl | rfl <;> rfl
  have hres := cellsP_ins ps i x
  have hrl := insP_len ps i x (by omega)
  by_cases room : ps.length + 1 ≤ cap
  · have H := insRoomP b ps.length cap i g (cellsP ps) [Value.int .u32 x.1, Value.int .u32 x.2] w hi room hcm hne hml rfl hcell
      (fun j hj => by rw [hB.cell j, List.getElem?_eq_getElem (by omega)]; rfl) (fun j => hB.frozen _) hone (cellsP_one ps) h1v
      46 46 2 (cap * 2) (shape_of hb) (by rw [shape_of hB, hlen]) (by omega) (fun j => hb.frozen _)
    refine H.mono ?_
    rintro e w' ⟨rfl, rfl⟩
    have hB' := blk_setCells [Value.int .u32 x.1, Value.int .u32 x.2] (i * 2) (blk_setCells ((cellsP ps).drop (i * 2)) ((i + 1) * 2) (blk_drew hB))
    have f1 : Fr (fun k => k = b) w ((w.drew.setCells b ((i + 1) * 2) ((cellsP ps).drop (i * 2))).setCells b (i * 2) [Value.int .u32 x.1, Value.int .u32 x.2]) :=
      ((Fr.refl _ w).drew.trans (setCells_fr8 b _ _ _) (fun _ _ h => h)).trans (setCells_fr8 b _ _ _) (fun _ _ h => h)
    have hp := put_room cur.toList (cellsP ps) [Value.int .u32 x.1, Value.int .u32 x.2] (i * 2) (ps.length * 2) 2 (by omega) hml rfl htk' (by omega)
    rw [show i * 2 + 2 = (i + 1) * 2 by omega] at hp
    rw [hp, ← hres] at hB'
    refine ⟨_, rfl, ?_, f1.ext ext (fun k hk => by subst hk; exact hbB), fun k hk hn => ⟨f1.block k hk (fun e => hn (by subst e; rfl)), hn⟩, f1.size⟩
    refine ⟨?_, Or.inr ⟨b, cap, _, by rw [hrl], hbB, hB', by omega, hcm, ?_, ?_⟩⟩
    · exact by rw [List.length_map, flat_len]
    · have := cellsP_len (insP ps i x)
      simp only [List.size_toArray, List.length_append, this, hrl, List.length_drop, hlen]
      omega
    · skip
      have := cellsP_len (insP ps i x)
      show List.take _ (cellsP (insP ps i x) ++ _) = cellsP (insP ps i x)
      rw [List.take_left' this]
  · have H := insGrowP b ps.length cap i g (cellsP ps) [Value.int .u32 x.1, Value.int .u32 x.2] w hi hnc (by omega) (by omega) hml rfl hcell hone (cellsP_one ps) h1v
    refine H.mono ?_
    rintro e w' ⟨rfl, rfl⟩
    have hge := grownCap_ge w (ps.length + 1) cap 46
    have hle := grownCap_le_maxLen w (ps.length + 1) cap 46 (by unfold maxLen; omega)
    generalize grownCap w (ps.length + 1) cap 46 = G at *
    generalize hC : ((cellsP ps).take (i * 2)).toArray ++ Builtin.zeroCells (Value.agg #[.int .u32 0, .int .u32 0]).cells (ps.length + 1 - i) ++ Builtin.zeroCells (Value.agg #[.int .u32 0, .int .u32 0]).cells (G - (ps.length + 1)) = C at *
    have hCl : C.toList.length = G * 2 := by
      rw [← hC]
      simp [Builtin.zeroCells, Value.cells]
      omega
    have hCt : C.toList.take (i * 2) = (cellsP ps).take (i * 2) := by
      rw [← hC]
      simp only [Array.toList_append, List.append_assoc]
      rw [List.take_left' (by simp; omega)]
    have hN : Blk (w.alloc (.cells C 46)) w.heap.size 46 C.toList := by
      have := Blk.new w 46 C.toList
      simpa using this
    have hB' := blk_setCells ((cellsP ps).drop (i * 2)) ((i + 1) * 2) (blk_drew (blk_setCells [Value.int .u32 x.1, Value.int .u32 x.2] (i * 2) (blk_drew hN)))
    have f1 : Fr (fun k => k = w.heap.size) w (((w.alloc (.cells C 46)).drew.setCells w.heap.size (i * 2) [Value.int .u32 x.1, Value.int .u32 x.2]).drew.setCells w.heap.size ((i + 1) * 2) ((cellsP ps).drop (i * 2))) :=
      ((((Fr.refl _ w).alloc _).drew.trans (setCells_fr8 w.heap.size _ _ _) (fun _ _ h => h)).drew).trans (setCells_fr8 w.heap.size _ _ _) (fun _ _ h => h)
    have hp := put_grow C.toList (cellsP ps) [Value.int .u32 x.1, Value.int .u32 x.2] (i * 2) (ps.length * 2) 2 (by omega) hml rfl (by omega) hCt
    rw [show i * 2 + 2 = (i + 1) * 2 by omega] at hp
    rw [hp, ← hres] at hB'
    refine ⟨_, rfl, ?_, f1.ext ext (fun k hk => by subst hk; exact ext.size), fun k hk hn => ⟨f1.block k hk (by omega), fun e => by injection e with e; simp at e; omega⟩, f1.size⟩
    refine ⟨?_, Or.inr ⟨w.heap.size, G, _, by rw [hrl], ext.size, hB', by omega, hle, ?_, ?_⟩⟩
    · exact by rw [List.length_map, flat_len]
    · have := cellsP_len (insP ps i x)
      simp only [List.size_toArray, List.length_append, this, hrl, List.length_drop, hCl]
      omega
    · skip
      have := cellsP_len (insP ps i x)
      show List.take _ (cellsP (insP ps i x) ++ _) = cellsP (insP ps i x)
      rw [List.take_left' this]
end Go.Proofs.Ythbngenjcgclgaa
