/- Crash of the device; what it tells of all its words and of its threads. Conditions: those that each theorem names. -/
import Derived.Test.YtcelhllhdkminaaDev4
namespace Go.Proofs.Ytcelhllhdkminaa
open Go.ChangeShapes Go.WideShapes Go.ChangeAt Go.RowKit
set_option linter.unusedVariables false
theorem setRow_fr (w : World) (g : Nat) (cs : Array Value) : Fr (fun k => k = g) w (w.setRow g cs) :=
  ⟨rfl, rfl, rfl, by simp [World.setRow], fun k _ hk => by simp [World.setRow, Array.getElem?_modify, show ¬ g = k from fun e => hk e.symm]⟩
section
variable {P : Program}
/-- copy(d, s), of elements of several cells. -/
theorem run_copyN (w : World) (dT sT ty elem : TypeId) (size g dLen dCap : Nat) (a : Addr) (sCap : Nat) (cur : Array Value) (t : TypeId) (cs : List Value)
    (hu : P.underlying dT = some (.slice elem)) (hs : (P.info? elem).map (·.size) = some size)
    (hg : w.heap[g]? = some (.cells cur t (0, 0))) (hn : cs.length = dLen * size)
    (hsrc : ∀ j v, cs[j]? = some v → w.cell? (a.add j) = some v) (hfit : cs.length ≤ cur.size) (h1 : ∀ v ∈ cs, v.oneCell' = true) :
    (Builtin.copy_ #[dT, sT] ty #[.slice (some ⟨g, 0, none⟩) dLen dCap, .slice (some a) dLen sCap]).run P w =
      .ok (goInt dLen) (w.setRow g (cs ++ cur.toList.drop cs.length).toArray) := by
  have hl := run_loadCells_list (P := P) w a cs hsrc
  have hst := run_storeCells_at P g 0 t cs 0 cur w hg (by simpa using hfit) h1
  simp only [Nat.zero_add, List.take_zero, List.nil_append] at hst
  cases hq : P.info? elem with
  | none => simp [hq] at hs
  | some i =>
    have hi : i.size = size := by simpa [hq] using hs
    rw [hn] at hl hst
    simp [Builtin.copy_, run_underlying hu, Builtin.lenOf, Builtin.firstCells, sizeOf, typeInfo, hq, hi, hl, hst, hn]
end
section
variable {B : Nat} {w w' : World} {D : DevB} {s : DSt}
/-- All that is seen, put anew. -/
theorem IsDev.seeAll (h : IsDev B w D s) (x : Fr (fun g => g = D.gs) w w') (zs : List Int) (cur : Array Value) (hz : zs.length = s.n * 8) (hl : Lim zs 18446744073709551616)
    (hg : w'.heap[D.gs]? = some (.cells cur 131 (0, 0))) (hc : cur.size = D.cs * 8) (ht : cur.toList.take (s.n * 8) = zs.map (Value.int .u64)) : IsDev B w' D { s with seen := zs } where
  n0 := h.n0
  n1 := h.n1
  T0 := h.T0
  T1 := h.T1
  lits := h.lits
  lfl := h.lfl
  bd := h.bd
  bf := h.bf
  dev := h.dev.fr x (fun e => h.dev.ne_row h.seen (by decide) (by rw [e]; rfl))
  kept := h.kept.fr x (fun g hg e => h.ks (by injection hg with hg; exact hg.trans e))
  seen := by
    rcases h.seen.2 with ⟨hv, _⟩ | ⟨g, cap, cur0, hv, hb, _, hnc, hcm, _⟩
    · cases hv
    · injection hv with h1 _ h3
      injection h1 with h1
      injection h1 with h1
      subst h1 h3
      exact ⟨by simpa using hz, Or.inr ⟨_, _, cur, rfl, hb, hg, hnc, hcm, hc, ht⟩⟩
  ks := h.ks
  flb := h.flb.fr x (fun e => h.flb.ne_row h.seen (by decide) (by rw [e]; rfl))
  fl := fun t ht => (h.fl t ht).fr x (fun g hg e => RowN.ne_row h.seen (RowN.of_row (h.fl t ht)) (by decide) _ rfl (by rw [hg, e]))
  writes := h.writes.fr x (fun g hg e => RowN.ne_row h.seen h.writes (by decide) _ rfl (by rw [hg, e]))
  apart := h.apart
  wapart := h.wapart
  lk := h.lk
  ls := hl
/-- All sets, emptied. -/
theorem IsDev.clear (h : IsDev B w D s) (x : Fr (fun g => g = D.gf) w w') (hg : Blk w' D.gf 151 (List.replicate s.T (.slice none 0 0))) :
    IsDev B w' { D with its := List.replicate s.T (.slice none 0 0) } { s with fl := List.replicate s.T [] } where
  n0 := h.n0
  n1 := h.n1
  T0 := h.T0
  T1 := h.T1
  lits := by simp
  lfl := by simp
  bd := h.bd
  bf := h.bf
  dev := h.dev.fr x (h.dev.ne h.flb (by decide))
  kept := h.kept.fr x (fun g hg e => h.flb.ne_row h.kept (by decide) (by rw [hg, e]))
  seen := h.seen.fr x (fun g hg e => h.flb.ne_row h.seen (by decide) (by rw [hg, e]))
  ks := h.ks
  flb := hg
  fl := fun t ht => by
    have h1 : (List.replicate s.T (Value.slice none 0 0)).getD t undef = .slice none 0 0 := by
      have ht' : t < s.T := ht
      simp [List.getD_eq_getElem?_getD, ht']
    have h2 : (List.replicate s.T ([] : List Int)).getD t [] = [] := by
      have ht' : t < s.T := ht
      simp [List.getD_eq_getElem?_getD, ht']
    show Row w' B 3 .i64 ((List.replicate s.T (Value.slice none 0 0)).getD t undef) ((List.replicate s.T ([] : List Int)).getD t [])
    rw [h1, h2]
    exact Row.nil _ _ _ _
  writes := h.writes.fr x (fun g hg e => h.flb.ne_row h.writes (by decide) (by rw [hg, e]))
  apart := fun t t' g ht _ _ hg => by
    have h1 : (List.replicate s.T (Value.slice none 0 0)).getD t undef = .slice none 0 0 := by
      have ht' : t < s.T := ht
      simp [List.getD_eq_getElem?_getD, ht']
    have hg' : ((List.replicate s.T (Value.slice none 0 0)).getD t undef).ownBlock = some g := hg
    rw [h1] at hg'
    cases hg'
  wapart := fun t ht => by
    have h1 : (List.replicate s.T (Value.slice none 0 0)).getD t undef = .slice none 0 0 := by
      have ht' : t < s.T := ht
      simp [List.getD_eq_getElem?_getD, ht']
    show ((List.replicate s.T (Value.slice none 0 0)).getD t undef).ownBlock ≠ some D.gw
    rw [h1]
    simp [Value.ownBlock]
  lk := h.lk
  ls := h.ls
end
theorem set_info : (Try.prog.info? 151).map (fun i => (i.zero, i.size, i.bytes)) = some (some (.agg #[.slice none 0 0]), 1, 24) := by kernel_rfl
/-- clear(flushes). -/
theorem clear_sets (w : World) (g T : Nat) (ty : TypeId) (cs : List Value) (hT : 0 < T) (hl : cs.length = T) (hg : Blk w g 151 cs) :
    (Builtin.clear_ #[127] ty #[.slice (some ⟨g, 0, none⟩) T T]).run Try.prog w = .ok (.tuple #[]) (w.setRow g (List.replicate T (Value.slice none 0 0)).toArray) := by
  obtain ⟨i, hi, hz0, hz1, hz2⟩ := info_parts set_info
  have hst := run_storeCells_at Try.prog g 0 151 (List.replicate T (Value.slice none 0 0)) 0 cs.toArray w hg (by simp [hl]) (by intro v hv; rw [(List.mem_replicate.1 hv).2]; rfl)
  have hd : cs.drop T = [] := List.drop_eq_nil_of_le (by omega)
  rw [show (0 : Nat) + 0 = 0 from rfl, List.take_zero, List.nil_append, List.length_replicate, Nat.zero_add, show cs.toArray.toList = cs from rfl, hd, List.append_nil] at hst
  obtain ⟨T', rfl⟩ : ∃ T', T = T' + 1 := ⟨T - 1, by omega⟩
  have hzc : (Builtin.zeroCells (Value.agg #[Value.slice none 0 0]).cells (T' + 1)).toList = List.replicate (T' + 1) (Value.slice none 0 0) := by
    show (Builtin.zeroCells #[Value.slice none 0 0] (T' + 1)).toList = _
    unfold Builtin.zeroCells
    apply List.ext_getElem
    · simp
    · intro j h1 h2
      simp [Nat.mod_one]
  simp [Builtin.clear_, run_underlying Try.underlying127, zeroValue, typeInfo, hi, hz0]
  rw [hzc, hst]
  simp
/-- A device behind a crash. -/
def DSt.crashed (s : DSt) : DSt := { s with seen := s.kept, fl := List.replicate s.T [] }
set_option maxRecDepth 100000 in
set_option maxHeartbeats 1000000 in
theorem crash_ok (B : Nat) (w : World) (D : DevB) (s : DSt) (h : IsDev B w D s) :
    Calls Try.prog 84 #[D.ptr] w (fun e w' => (∃ v, e = .returned v) ∧ ∃ D' : DevB, D'.gd = D.gd ∧ IsDev B w' D' s.crashed ∧ Fr D.foot w w' ∧ ∀ g, D'.foot g → D.foot g) := by
  unfold DevB.ptr
  have c0 := h.c0
  have c1 := h.c1
  have hn1 := h.n1
  have hkl := h.kept.len
  obtain ⟨cur, hcur, hcs⟩ : ∃ cur : Array Value, w.heap[D.gs]? = some (.cells cur 131 (0, 0)) ∧ cur.size = D.cs * 8 ∧ s.n ≤ D.cs := by
    rcases h.seen.2 with ⟨hv, _⟩ | ⟨g, cap, cur0, hv, hb, hg, hnc, hcm, hc, _⟩
    · cases hv
    · injection hv with h1 _ h3
      injection h1 with h1
      injection h1 with h1
      subst h1 h3
      exact ⟨cur0, hg, hc, hnc⟩
  obtain ⟨hcsz, hncs⟩ := hcs
  have hI : Ints w .u64 (some ⟨D.gk, 0, none⟩) s.kept := by
    obtain ⟨A, c, hv, _, _, hI, _⟩ := h.kept.form (by decide)
    injection hv with h1
    rw [h1]
    exact hI
  have hfit : (s.kept.map (Value.int .u64)).length ≤ cur.size := by
    rw [List.length_map, hkl, hcsz]
    exact Nat.mul_le_mul_right 8 hncs
  have hcp := run_copyN (P := Try.prog) w.drew 114 114 3 131 8 D.gs s.n D.cs ⟨D.gk, 0, none⟩ D.ck cur 131 (s.kept.map (Value.int .u64)) Try.underlying114 (by kernel_rfl) hcur (by rw [List.length_map]; exact hkl) (ints_cells hI) hfit (by intro v hv; obtain ⟨y, _, rfl⟩ := List.mem_map.1 hv; rfl)
  have hX := (h.ext ((Ext.refl w).drew)).seeAll (setRow_fr w.drew D.gs (s.kept.map (Value.int .u64) ++ cur.toList.drop (s.kept.map (Value.int .u64)).length).toArray) s.kept (s.kept.map (Value.int .u64) ++ cur.toList.drop (s.kept.map (Value.int .u64)).length).toArray hkl h.lk (setRow_heap w.drew D.gs cur _ 131 (0, 0) hcur)
    (by rw [List.length_map] at hfit; simp; omega) (by rw [List.take_append_of_le_length (by simp [hkl]), List.take_of_length_le (by simp [hkl])])
  have fX : Fr D.foot w (w.drew.setRow D.gs (s.kept.map (Value.int .u64) ++ cur.toList.drop (s.kept.map (Value.int .u64)).length).toArray) := ((Fr.refl D.foot w).drew).trans (setRow_fr w.drew D.gs _) (fun g _ e => Or.inr (Or.inr (Or.inl e)))
  clear hkl hcur hcsz hncs hI hfit
  generalize w.drew.setRow D.gs (s.kept.map (Value.int .u64) ++ cur.toList.drop (s.kept.map (Value.int .u64)).length).toArray = X at *
  have c2X := hX.c2
  have hcl := clear_sets X D.gf s.T 0 D.its h.T0 hX.lits hX.flb
  have hY := hX.clear (setRow_fr X D.gf (List.replicate s.T (Value.slice none 0 0)).toArray) (setRow_heap X D.gf D.its.toArray _ 151 (0, 0) hX.flb)
  have fY : Fr D.foot w (X.setRow D.gf (List.replicate s.T (Value.slice none 0 0)).toArray) := fX.trans (setRow_fr X D.gf _) (fun g _ e => Or.inr (Or.inr (Or.inr (Or.inl e))))
  have HY := Lib.hid hY
  have HFY := Lib.hid fY
  clear hY fY hX fX h
  generalize X.setRow D.gf (List.replicate s.T (Value.slice none 0 0)).toArray = Y at *
  go_enter Try.func84, Try.ntmps84
  go_wp2_with fail
  go_region
  go_wp2_with fail
  go_end0
  refine ⟨⟨_, rfl⟩, { D with its := List.replicate s.T (.slice none 0 0) }, rfl, HY.out, HFY.out, fun g hg => ?_⟩
  rcases hg with h | h | h | h | h | ⟨t', ht', h⟩
  · exact Or.inl h
  · exact Or.inr (Or.inl h)
  · exact Or.inr (Or.inr (Or.inl h))
  · exact Or.inr (Or.inr (Or.inr (Or.inl h)))
  · exact Or.inr (Or.inr (Or.inr (Or.inr (Or.inl h))))
  · have ht2 : t' < s.T := by simpa using ht'
    have h' : ((List.replicate s.T (Value.slice none 0 0)).getD t' undef).ownBlock = some g := h
    rw [show (List.replicate s.T (Value.slice none 0 0)).getD t' undef = .slice none 0 0 from by simp [List.getD_eq_getElem?_getD, ht2]] at h'
    cases h'
theorem crash_nil (w : World) :
    Calls Try.prog 84 #[.pointer none] w fun e w' => (∃ v, e = .returned v) ∧ w = w' := by
  go_enter Try.func84, Try.ntmps84
  go_wp2_with fail
  refine bodyPost_ret (results_none rfl _ _ _) rfl ?_
  exact ⟨⟨_, rfl⟩, rfl⟩
set_option maxHeartbeats 400000 in
theorem kept_ok (B : Nat) (w : World) (D : DevB) (s : DSt) (h : IsDev B w D s) :
    Calls Try.prog 52 #[D.ptr] w (RowBack w 31 .u64 s.kept) := by
  unfold DevB.ptr
  have c0 := h.c0
  have hI : Ints w .u64 (some ⟨D.gk, 0, none⟩) s.kept := by
    obtain ⟨A, c, hv, _, _, hI, _⟩ := h.kept.form (by decide)
    injection hv with h1
    rw [h1]
    exact hI
  have HC := Lib.hid (words_of w (some ⟨D.gk, 0, none⟩) s.n D.ck s.kept (by have := h.kept.len; omega) (by have := h.n1; omega) h.lk hI)
  clear hI
  go_enter Try.func52, Try.ntmps52
  go_wp2_with fail
  refine HC.out.mono ?_
  rintro e w' ⟨v, rfl, hr, hx⟩
  go_wp2_with fail
  go_ret
  exact ⟨v, rfl, hr, hx⟩
set_option maxHeartbeats 400000 in
theorem seen_ok (B : Nat) (w : World) (D : DevB) (s : DSt) (h : IsDev B w D s) :
    Calls Try.prog 51 #[D.ptr] w (RowBack w 31 .u64 s.seen) := by
  unfold DevB.ptr
  have c1 := h.c1
  have hI : Ints w .u64 (some ⟨D.gs, 0, none⟩) s.seen := by
    obtain ⟨A, c, hv, _, _, hI, _⟩ := h.seen.form (by decide)
    injection hv with h1
    rw [h1]
    exact hI
  have HC := Lib.hid (words_of w (some ⟨D.gs, 0, none⟩) s.n D.cs s.seen (by have := h.seen.len; omega) (by have := h.n1; omega) h.ls hI)
  clear hI
  go_enter Try.func51, Try.ntmps51
  go_wp2_with fail
  refine HC.out.mono ?_
  rintro e w' ⟨v, rfl, hr, hx⟩
  go_wp2_with fail
  go_ret
  exact ⟨v, rfl, hr, hx⟩
theorem kept_nil (w : World) :
    Calls Try.prog 52 #[.pointer none] w fun e w' => e = .returned (.slice none 0 0) ∧ w = w' := by
  go_enter Try.func52, Try.ntmps52
  go_wp2_with fail
  go_ret
  exact ⟨rfl, rfl⟩
theorem seen_nil (w : World) :
    Calls Try.prog 51 #[.pointer none] w fun e w' => e = .returned (.slice none 0 0) ∧ w = w' := by
  go_enter Try.func51, Try.ntmps51
  go_wp2_with fail
  go_ret
  exact ⟨rfl, rfl⟩
end Go.Proofs.Ytcelhllhdkminaa
