/- Crash of the device; what it tells of all its words and of its threads. Conditions: those that each theorem names. -/
import Derived.Test.YtolengkegjipaaaGreatKDevA
import Derived.Laws.Cover3
namespace Go.Proofs.YtolengkegjipaaaGreat
open Go.ChangeShapes Go.WideShapes Go.ChangeAt Go.RowKit
set_option linter.unusedVariables false
section
variable {P : Program}
end
section
variable {B : Nat} {w w' : World} {D : DevB} {s : DSt}
/-- All sets, emptied. -/
theorem IsDev.clear (h : IsDev B w D s) (x : Fr (fun g => g = D.gf) w w') (hg : Blk w' D.gf 160 (List.replicate s.T (.slice none 0 0))) :
    IsDev B w' { D with its := List.replicate s.T (.slice none 0 0) } { s with fl := List.replicate s.T [] } where
  n0 := h.n0
  n1 := h.n1
  T0 := h.T0
  T1 := h.T1
  lits := by simp
  lfl := by simp
  bd := h.bd
  bf := h.bf
  dev := h.dev.fr x (h.dev.ne h.flb (by decide))
  kept := h.kept.fr x (fun g hg e => h.flb.ne_row h.kept (by decide) (by rw [hg, e]))
  seen := h.seen.fr x (fun g hg e => h.flb.ne_row h.seen (by decide) (by rw [hg, e]))
  ks := h.ks
  flb := hg
  fl := fun t ht => by
    have h1 : (List.replicate s.T (Value.slice none 0 0)).getD t undef = .slice none 0 0 := by
      have ht' : t < s.T := ht
      simp [List.getD_eq_getElem?_getD, ht']
    have h2 : (List.replicate s.T ([] : List Int)).getD t [] = [] := by
      have ht' : t < s.T := ht
      simp [List.getD_eq_getElem?_getD, ht']
    show Row w' B 3 .i64 ((List.replicate s.T (Value.slice none 0 0)).getD t undef) ((List.replicate s.T ([] : List Int)).getD t [])
    rw [h1, h2]
    exact Row.nil _ _ _ _
  writes := h.writes.fr x (fun g hg e => h.flb.ne_row h.writes (by decide) (by rw [hg, e]))
  apart := fun t t' g ht _ _ hg => by
    have h1 : (List.replicate s.T (Value.slice none 0 0)).getD t undef = .slice none 0 0 := by
      have ht' : t < s.T := ht
      simp [List.getD_eq_getElem?_getD, ht']
    have hg' : ((List.replicate s.T (Value.slice none 0 0)).getD t undef).ownBlock = some g := hg
    rw [h1] at hg'
    cases hg'
  wapart := fun t ht => by
    have h1 : (List.replicate s.T (Value.slice none 0 0)).getD t undef = .slice none 0 0 := by
      have ht' : t < s.T := ht
      simp [List.getD_eq_getElem?_getD, ht']
    show ((List.replicate s.T (Value.slice none 0 0)).getD t undef).ownBlock ≠ some D.gw
    rw [h1]
    simp [Value.ownBlock]
  lk := h.lk
  ls := h.ls
end
theorem set_info : (Tryz.prog.info? 160).map (fun i => (i.zero, i.size, i.bytes)) = some (some (.agg #[.slice none 0 0]), 1, 24) := by kernel_rfl
/-- A device behind a crash. -/
def DSt.crashed (s : DSt) : DSt := { s with seen := s.kept, fl := List.replicate s.T [] }
set_option maxHeartbeats 400000 in
theorem seen_ok (B : Nat) (w : World) (D : DevB) (s : DSt) (h : IsDev B w D s) :
    Calls Tryz.prog 32 #[D.ptr] w (RowBack w 53 .u64 s.seen) := by
  unfold DevB.ptr
  have c1 := h.c1
  have hI : Ints w .u64 (some ⟨D.gs, 0, none⟩) s.seen := by
    obtain ⟨A, c, hv, _, _, hI, _⟩ := h.seen.form (by decide)
    injection hv with h1
    rw [h1]
    exact hI
  have HC := Lib.hid (words_of w (some ⟨D.gs, 0, none⟩) s.n D.cs s.seen (by have := h.seen.len; omega) (by have := h.n1; omega) h.ls hI)
  clear hI
  go_enter Tryz.func32, Tryz.ntmps32
  go_wp2_with fail
  refine HC.out.mono ?_
  rintro e w' ⟨v, rfl, hr, hx⟩
  go_wp2_with fail
  go_ret
  exact ⟨v, rfl, hr, hx⟩
end Go.Proofs.YtolengkegjipaaaGreat


/- A line flushed by a thread that flushes none; a device made. Conditions: those that each theorem names. -/
namespace Go.Proofs.YtolengkegjipaaaGreat
open Go.ChangeShapes Go.WideShapes Go.ChangeAt Go.RowKit
set_option linter.unusedVariables false
set_option maxHeartbeats 400000 in
theorem bsearch_empty (A : Option Addr) (c : Nat) (x : Int) (w : World) :
    Calls Tryz.prog 127 #[.slice A 0 c, .int .i64 x] w fun e w' => e = .returned (.tuple #[.int .i64 0, .bool false]) ∧ w = w' := by
  go_enter Tryz.func127, Tryz.ntmps127
  go_wp2_with fail
  go_loop [7, 8] (fun i j => i = .int .i64 0 ∧ j = .int .i64 0) (fun _ _ => 0)
  case atStart => exact ⟨rfl, rfl⟩
  case round =>
    obtain ⟨rfl, rfl⟩ := hrel
    go_wp2_with fail
    go_ret2
    exact ⟨rfl, rfl⟩
theorem one_at {w : World} {g : Nat} {k : IntKind} {x : Int} (hc : w.cell? ⟨g, 0, none⟩ = some (.int k x)) : ∀ j, j < [x].length → w.cell? ((⟨g, 0, none⟩ : Addr).add j) = some (.int k ([x].getD j 0)) := fun j hj => by
  have h1 : j < 1 := hj
  obtain rfl : j = 0 := by omega
  exact hc
/-- A row of which the block is new, or the old one's. -/
def RowOnto (w0 : World) (w : World) (v : Value) (zs : List Int) (r : Ending) (w' : World) : Prop :=
  ∃ v', r = .returned v' ∧ Row w' w0.heap.size 3 .i64 v' zs ∧ Ext w0 w' ∧ (∀ g, g < w.heap.size → v.ownBlock ≠ some g → w'.heap[g]? = w.heap[g]? ∧ v'.ownBlock ≠ some g) ∧ w.heap.size ≤ w'.heap.size
set_option maxRecDepth 100000 in
set_option maxHeartbeats 400000 in
theorem insert_empty (w0 w : World) (v : Value) (g : Nat) (x : Int) (hr : Row w w0.heap.size 3 .i64 v []) (ext : Ext w0 w) (hc : w.cell? ⟨g, 0, none⟩ = some (.int .i64 x)) :
    Calls Tryz.prog 128 #[v, .int .i64 0, .slice (some ⟨g, 0, none⟩) 1 1] w (RowOnto w0 w v [x]) := by
  obtain ⟨A, c, rfl, _, hcm, _, _, hN⟩ := (RowN.of_row hr).form (by decide)
  unfold maxLen at hcm
  have HR := Lib.hid (RowN.of_row hr)
  clear hr
  go_enter Tryz.func128, Tryz.ntmps128
  cases A with
  | none =>
    go_wp2_with ((at_builtin; refine Hid.out ?_))
    refine Lib.hid ?_
    refine wpList_appN rfl _ _ 44 rfl 3 .i64 1 8 (.int .i64 0) int_info rfl (by decide) (by decide) Tryz.underlying44 w0 w _ 0 [] (by rfl) HR.out ext ⟨g, 0, none⟩ 1 1 [x] (by rfl) rfl (one_at hc) (by omega) ?_
    intro v' w' h1 h2 h3 h4
    go_wp2_with fail
    go_ret
    exact ⟨v', rfl, h1.row, h2, h3, h4⟩
  | some ad =>
    go_wp2_with ((at_builtin; refine Hid.out ?_))
    refine Lib.hid ?_
    refine wpList_appN rfl _ _ 44 rfl 3 .i64 1 8 (.int .i64 0) int_info rfl (by decide) (by decide) Tryz.underlying44 w0 w _ 0 [] (by rfl) HR.out ext ⟨g, 0, none⟩ 1 1 [x] (by rfl) rfl (one_at hc) (by omega) ?_
    intro v' w' h1 h2 h3 h4
    go_wp2_with fail
    go_ret
    exact ⟨v', rfl, h1.row, h2, h3, h4⟩
section
variable {B : Nat} {w w1 : World} {D : DevB} {s : DSt}
/-- A thread's set put anew, behind a change of its old row alone. -/
theorem IsDev.putNew (h : IsDev B w D s) (t : Nat) (ht : t < s.T) (x : Fr (fun g => (D.its.getD t undef).ownBlock = some g) w w1) (v : Value) (l : List Int) (hr : Row w1 B 3 .i64 v l)
    (hv : ∀ g, g < w.heap.size → (D.its.getD t undef).ownBlock ≠ some g → v.ownBlock ≠ some g) :
    IsDev B (w1.setCell ⟨D.gf, t, none⟩ v) { D with its := D.its.set t v } { s with fl := s.fl.set t l } := by
  have hrt := RowN.of_row (h.fl t ht)
  have dev1 := h.dev.fr x (h.dev.ne_row hrt (by decide))
  have kept1 := h.kept.fr x (fun g hg => RowN.ne_row h.kept hrt (by decide) g hg)
  have seen1 := h.seen.fr x (fun g hg => RowN.ne_row h.seen hrt (by decide) g hg)
  have flb1 := h.flb.fr x (h.flb.ne_row hrt (by decide))
  have fl1 : ∀ t', t' < s.T → t' ≠ t → Row w1 B 3 .i64 (D.its.getD t' undef) (s.fl.getD t' []) := fun t' ht' e => (h.fl t' ht').fr x (fun g hg => h.apart t' t g ht' ht e hg)
  have writes1 := h.writes.fr x (fun g hg hs => h.wapart t ht (by cases hg; exact hs))
  have hvt : ∀ t' g, t' < s.T → t' ≠ t → v.ownBlock = some g → (D.its.getD t' undef).ownBlock ≠ some g := fun t' g ht' e hg hg' => by
    have hlt := (World.ownsRow.lt (h.fl t' ht') g hg').2
    by_cases c : (D.its.getD t undef).ownBlock = some g
    · exact h.apart t t' g ht ht' (fun e' => e e'.symm) c hg'
    · exact hv g hlt c hg
  have hvw : v.ownBlock ≠ some D.gw := hv D.gw (World.ownsRow.lt h.writes _ rfl).2 (h.wapart t ht)
  exact {
    n0 := h.n0, n1 := h.n1, T0 := h.T0, T1 := h.T1
    lits := by show (D.its.set t v).length = _; rw [List.length_set]; exact h.lits
    lfl := by show (s.fl.set t l).length = _; rw [List.length_set]; exact h.lfl
    bd := h.bd, bf := h.bf
    dev := dev1.far (p := ⟨D.gf, t, none⟩) (h.dev.ne h.flb (by decide)) _
    kept := kept1.far (p := ⟨D.gf, t, none⟩) (flb1.ne_row kept1 (by decide)) _
    seen := seen1.far (p := ⟨D.gf, t, none⟩) (flb1.ne_row seen1 (by decide)) _
    ks := h.ks
    flb := flb1.set t v
    fl := fun t' ht' => by
      show Row _ B 3 .i64 ((D.its.set t v).getD t' undef) ((s.fl.set t l).getD t' [])
      by_cases e : t' = t
      · subst e
        rw [List.getD_eq_getElem?_getD, List.getElem?_set_self (by rw [h.lits]; exact ht), List.getD_eq_getElem?_getD, List.getElem?_set_self (by rw [h.lfl]; exact ht)]
        exact hr.far (p := ⟨D.gf, t', none⟩) (flb1.ne_row (RowN.of_row hr) (by decide)) _
      · rw [List.getD_eq_getElem?_getD, List.getElem?_set_ne (fun h => e h.symm), ← List.getD_eq_getElem?_getD, List.getD_eq_getElem?_getD (l := s.fl.set t l), List.getElem?_set_ne (fun h => e h.symm), ← List.getD_eq_getElem?_getD]
        exact (fl1 t' ht' e).far (p := ⟨D.gf, t, none⟩) (flb1.ne_row (RowN.of_row (fl1 t' ht' e)) (by decide)) _
    writes := writes1.far (p := ⟨D.gf, t, none⟩) (flb1.ne_row writes1 (by decide)) _
    apart := fun t1 t2 g h1 h2 hne hg => by
      have e1 : ∀ t', t' ≠ t → (D.its.set t v).getD t' undef = D.its.getD t' undef := fun t' e => by
        rw [List.getD_eq_getElem?_getD, List.getElem?_set_ne (fun h => e h.symm), ← List.getD_eq_getElem?_getD]
      have e2 : (D.its.set t v).getD t undef = v := by
        rw [List.getD_eq_getElem?_getD, List.getElem?_set_self (by rw [h.lits]; exact ht)]; rfl
      show ((D.its.set t v).getD t2 undef).ownBlock ≠ some g
      have hg' : ((D.its.set t v).getD t1 undef).ownBlock = some g := hg
      by_cases c1 : t1 = t
      · subst c1
        rw [e2] at hg'
        rw [e1 t2 (fun e => hne e.symm)]
        exact hvt t2 g h2 (fun e => hne e.symm) hg'
      · rw [e1 t1 c1] at hg'
        by_cases c2 : t2 = t
        · subst c2
          rw [e2]
          intro hg2
          exact hvt t1 g h1 c1 hg2 hg'
        · rw [e1 t2 c2]
          exact h.apart t1 t2 g h1 h2 hne hg'
    wapart := fun t' ht' => by
      show ((D.its.set t v).getD t' undef).ownBlock ≠ some D.gw
      by_cases e : t' = t
      · subst e
        rw [List.getD_eq_getElem?_getD, List.getElem?_set_self (by rw [h.lits]; exact ht)]
        exact hvw
      · rw [List.getD_eq_getElem?_getD, List.getElem?_set_ne (fun h => e h.symm), ← List.getD_eq_getElem?_getD]
        exact h.wapart t' ht'
    lk := h.lk, ls := h.ls }
end
end Go.Proofs.YtolengkegjipaaaGreat


/- A device made: slices.Clone of lines, over, New. Conditions: those that each theorem names. -/
namespace Go.Proofs.YtolengkegjipaaaGreat
open Go.ChangeShapes Go.WideShapes Go.ChangeAt Go.RowKit
set_option linter.unusedVariables false
theorem eql_nil {P : Program} {t e : TypeId} (ht : P.underlying t = some (.slice e)) (A : Option Addr) (n c : Nat) (W : World) : (binOp .eql t (.slice A n c) (.slice none 0 0)).run P W = .ok (.bool A.isNone) W := by
  simp only [binOp]
  simp [run_equal_slice_nil W t e A n c ht]
set_option maxRecDepth 100000 in
set_option maxHeartbeats 400000 in
theorem cloneL_of (w : World) (ad : Addr) (n c : Nat) (zs : List Int) (hz : zs.length = n * 8) (hn : n ≤ 262144) (hA : Ints w .u64 (some ad) zs) (h0 : 0 < n) :
    Calls Tryz.prog 69 #[.slice (some ad) n c] w fun e w' => ∃ v, e = .returned v ∧ RowN w' w.heap.size 133 8 .u64 v n zs ∧ Ext w w' := by
  obtain ⟨ad', e, _, hc⟩ := hA (by omega)
  injection e with e
  subst e
  have HC := Lib.hid hc
  clear hc
  have hnil := fun W => eql_nil (P := Tryz.prog) (t := 100) Tryz.underlying100 (some ad) n c W
  rw [show (some ad).isNone = false from rfl] at hnil
  go_enter Tryz.func69, Tryz.ntmps69
  go_wp2_with ((at_builtin; refine Hid.out ?_))
  refine Lib.hid ?_
  refine wpList_appN rfl _ _ 100 rfl 133 .u64 8 64 (.agg z8) line_info rfl (by decide) (by decide) Tryz.underlying100 w _ _ 0 [] (by rfl) (by exact ⟨rfl, Or.inr ⟨w.heap.size, 0, #[], rfl, Nat.le_refl _, heap_alloc_new w _, Nat.le_refl _, Nat.zero_le _, rfl, rfl⟩⟩) (by exact (Ext.refl w).alloc _) ad n c zs (by rfl) hz (by intro j hj; rw [← HC.out j hj]; exact World.cell?_of_block (Below.heap_alloc w _ _ (by rw [add_block]; assumption))) (by omega) ?_
  intro v' w' h1 h2 h3 h4
  go_wp2_with fail
  go_ret
  rw [Nat.zero_add] at h1
  exact ⟨v', rfl, h1, h2⟩
/-- A device, out of its parts. -/
theorem mkDev {B : Nat} {X : World} {gd gk gs gf gw ck cs n T : Nat} {zs : List Int} (n0 : 0 < n) (n1 : n ≤ 262144) (T0 : 0 < T) (T1 : T ≤ 64) (lz : Lim zs 18446744073709551616)
    (hk : RowN X B 133 8 .u64 (.slice (some ⟨gk, 0, none⟩) n ck) n zs) (hs : RowN X B 133 8 .u64 (.slice (some ⟨gs, 0, none⟩) n cs) n zs) (hne : gk ≠ gs)
    (hf : Blk X gf 160 (List.replicate T (.slice none 0 0))) (bf : B ≤ gf) (hw : RowN X B 3 1 .i64 (.slice (some ⟨gw, 0, none⟩) n n) n (List.replicate n 0))
    (hd : Blk X gd 122 [.slice (some ⟨gk, 0, none⟩) n ck, .slice (some ⟨gs, 0, none⟩) n cs, .slice (some ⟨gf, 0, none⟩) T T, .slice (some ⟨gw, 0, none⟩) n n]) (bd : B ≤ gd) :
    IsDev B X ⟨gd, gk, gs, gf, gw, ck, cs, List.replicate T (.slice none 0 0)⟩ ⟨n, T, zs, zs, List.replicate n 0, List.replicate T []⟩ := by
  have hg : ∀ t, t < T → (List.replicate T (Value.slice none 0 0)).getD t undef = .slice none 0 0 := fun t ht => by simp [List.getD_eq_getElem?_getD, ht]
  exact {
    n0 := n0, n1 := n1, T0 := T0, T1 := T1
    lits := by simp
    lfl := by simp
    bd := bd, bf := bf, dev := hd, kept := hk, seen := hs, ks := hne, flb := hf
    fl := fun t ht => by
      have h2 : (List.replicate T ([] : List Int)).getD t [] = [] := by
        have ht' : t < T := ht
        simp [List.getD_eq_getElem?_getD, ht']
      show Row X B 3 .i64 ((List.replicate T (Value.slice none 0 0)).getD t undef) ((List.replicate T ([] : List Int)).getD t [])
      rw [hg t ht, h2]
      exact Row.nil _ _ _ _
    writes := hw
    apart := fun t t' g ht _ _ h => by
      have h' : ((List.replicate T (Value.slice none 0 0)).getD t undef).ownBlock = some g := h
      rw [hg t ht] at h'
      cases h'
    wapart := fun t ht => by
      show ((List.replicate T (Value.slice none 0 0)).getD t undef).ownBlock ≠ some gw
      rw [hg t ht]
      simp [Value.ownBlock]
    lk := lz, ls := lz }
theorem make_sets (T : Nat) (hT : T ≤ 64) (W : World) :
    (Instr.makeSlice 120 (.int .i64 (T : Int)) (.int .i64 (T : Int))).run Tryz.prog W = .ok (.slice (some ⟨W.heap.size, 0, none⟩) T T) (W.alloc (.cells (List.replicate T (Value.slice none 0 0)).toArray 160)) := by
  obtain ⟨i, hi, hz0, hz1, hz2⟩ := info_parts set_info
  have h := run_makeInts (k := .u64) Tryz.underlying120 hi hz0 hz1 T T (Nat.le_refl _) (by rw [hz2]; omega) (by unfold maxLen; omega) W
  rw [h]
  have e : madeCells (Value.agg #[Value.slice none 0 0]).cells (T * 1) = (List.replicate T (Value.slice none 0 0)).toArray := by
    show madeCells #[Value.slice none 0 0] (T * 1) = _
    unfold madeCells
    apply Array.ext
    · simp
    · intro j h1 h2
      simp [Nat.mod_one]
  rw [e]
/-- What hands back a device. -/
def DevMade (B : Nat) (w : World) (s : DSt) (gk : Nat) (r : Ending) (w' : World) : Prop := ∃ D : DevB, r = .returned D.ptr ∧ IsDev B w' D s ∧ Ext w w' ∧ ∀ g, D.foot g → g = gk ∨ w.heap.size ≤ g
set_option maxRecDepth 100000 in
set_option maxHeartbeats 2000000 in
theorem over_of (B : Nat) (w : World) (gk ck n T : Nat) (zs : List Int) (n0 : 0 < n) (n1 : n ≤ 262144) (T0 : 0 < T) (T1 : T ≤ 64) (lz : Lim zs 18446744073709551616) (hB : B ≤ w.heap.size)
    (hk : RowN w B 133 8 .u64 (.slice (some ⟨gk, 0, none⟩) n ck) n zs) :
    Calls Tryz.prog 47 #[.slice (some ⟨gk, 0, none⟩) n ck, .int .i64 (T : Int)] w (DevMade B w ⟨n, T, zs, zs, List.replicate n 0, List.replicate T []⟩ gk) := by
  have hI : Ints w .u64 (some ⟨gk, 0, none⟩) zs := by
    obtain ⟨A, c, hv, _, _, hI, _⟩ := hk.form (by decide)
    injection hv with h1
    rw [h1]
    exact hI
  have HCl := Lib.hid (fun W (x : Ext w W) => cloneL_of W ⟨gk, 0, none⟩ n ck zs hk.len n1 (hI.ext x) n0)
  have hmS := fun W => make_sets T T1 W
  have hmI := fun W => make_ints n n (Nat.le_refl _) (by omega) W
  have HK := Lib.hid hk
  clear hk hI
  generalize hS : (List.replicate T (Value.slice none 0 0)).toArray = MS at *
  have HS := Lib.hid hS
  clear hS
  generalize hMI : madeCells #[Value.int .i64 0] (n * 1) = MI at *
  have HMI := Lib.hid hMI
  clear hMI
  go_enter Tryz.func47, Tryz.ntmps47
  go_wp2_with fail
  go_region_with (go_at_call 69; refine (HCl.out _ (by first | exact (Ext.refl w).drew | exact ((Ext.refl w).alloc _).drew | exact (((Ext.refl w).alloc _).alloc _).drew)).mono ?_; rintro e w1 ⟨vC, rfl, rC, xC⟩; obtain ⟨gs, cs, hvC, hsc, _, hgs, hgl⟩ := rC.at_ n0; subst hvC; have HrC := Lib.hid rC; clear rC)
  all_goals go_wp2_with fail
  · go_ret
    have xwp : Ext w w.drew := (Ext.refl w).drew
    have x1X : Ext w1 (((w1.alloc (.cells MS 160)).alloc (.cells MI 3)).alloc (.cells [.slice (some ⟨gk, 0, none⟩) n ck, .slice (some ⟨gs, 0, none⟩) n cs, .slice (some ⟨w1.heap.size, 0, none⟩) T T, .slice (some ⟨w1.heap.size + 1, 0, none⟩) n n].toArray 122)) := (((Ext.refl w1).alloc _).alloc _).alloc _
    have xw1 : Ext w w1 := xwp.trans xC
    have xwX := xw1.trans x1X
    have s1 := xw1.size
    have hf0 := Blk.new w1 160 (List.replicate T (Value.slice none 0 0))
    rw [HS.out] at hf0
    have hf := hf0.ext (show Ext _ (((w1.alloc (.cells MS 160)).alloc (.cells MI 3)).alloc (.cells [.slice (some ⟨gk, 0, none⟩) n ck, .slice (some ⟨gs, 0, none⟩) n cs, .slice (some ⟨w1.heap.size, 0, none⟩) T T, .slice (some ⟨w1.heap.size + 1, 0, none⟩) n n].toArray 122)) from ((Ext.refl _).alloc _).alloc _)
    have hw0 := RowN.made (w1.alloc (.cells MS 160)) 3 1 n n .i64 #[Value.int .i64 0] one_zero rfl (by decide) (Nat.le_refl _) (by unfold maxLen; omega)
    rw [HMI.out, Nat.mul_one] at hw0
    have hw := (hw0.mono (B' := B) (by first | omega | (simp; omega))).ext (show Ext _ (((w1.alloc (.cells MS 160)).alloc (.cells MI 3)).alloc (.cells [.slice (some ⟨gk, 0, none⟩) n ck, .slice (some ⟨gs, 0, none⟩) n cs, .slice (some ⟨w1.heap.size, 0, none⟩) T T, .slice (some ⟨w1.heap.size + 1, 0, none⟩) n n].toArray 122)) from (Ext.refl _).alloc _)
    simp only [World.size_alloc] at hw
    have hgk := (World.ownsRow.lt HK.out gk rfl).2
    have hgs' : w.heap.size ≤ gs := by have := xwp.size; omega
    have hd := Blk.new ((w1.alloc (.cells MS 160)).alloc (.cells MI 3)) 122 [.slice (some ⟨gk, 0, none⟩) n ck, .slice (some ⟨gs, 0, none⟩) n cs, .slice (some ⟨w1.heap.size, 0, none⟩) T T, .slice (some ⟨w1.heap.size + 1, 0, none⟩) n n]
    simp only [World.size_alloc] at hd
    refine ⟨⟨w1.heap.size + 1 + 1, gk, gs, w1.heap.size, w1.heap.size + 1, ck, cs, List.replicate T (.slice none 0 0)⟩, rfl, mkDev n0 n1 T0 T1 lz (HK.out.ext xwX) ((HrC.out.mono (by have := xwp.size; omega)).ext x1X) (by omega) hf (by omega) hw hd (by omega), xwX, fun g hg => ?_⟩
    rcases hg with h | h | h | h | h | ⟨t', ht', h⟩
    · exact Or.inr (by have h' : g = w1.heap.size + 1 + 1 := h; omega)
    · exact Or.inl h
    · exact Or.inr (by have h' : g = gs := h; omega)
    · exact Or.inr (by have h' : g = w1.heap.size := h; omega)
    · exact Or.inr (by have h' : g = w1.heap.size + 1 := h; omega)
    · have ht2 : t' < T := by simpa using ht'
      have h' : ((List.replicate T (Value.slice none 0 0)).getD t' undef).ownBlock = some g := h
      rw [show (List.replicate T (Value.slice none 0 0)).getD t' undef = .slice none 0 0 from by simp [List.getD_eq_getElem?_getD, ht2]] at h'
      cases h'
  · go_ret
    have xwp : Ext w w.drew := (Ext.refl w).drew
    have x1X : Ext w1 (((w1.alloc (.cells MI 3)).alloc (.cells MS 160)).alloc (.cells [.slice (some ⟨gk, 0, none⟩) n ck, .slice (some ⟨gs, 0, none⟩) n cs, .slice (some ⟨w1.heap.size + 1, 0, none⟩) T T, .slice (some ⟨w1.heap.size, 0, none⟩) n n].toArray 122)) := (((Ext.refl w1).alloc _).alloc _).alloc _
    have xw1 : Ext w w1 := xwp.trans xC
    have xwX := xw1.trans x1X
    have s1 := xw1.size
    have hf0 := Blk.new (w1.alloc (.cells MI 3)) 160 (List.replicate T (Value.slice none 0 0))
    rw [HS.out] at hf0
    have hf := hf0.ext (show Ext _ (((w1.alloc (.cells MI 3)).alloc (.cells MS 160)).alloc (.cells [.slice (some ⟨gk, 0, none⟩) n ck, .slice (some ⟨gs, 0, none⟩) n cs, .slice (some ⟨w1.heap.size + 1, 0, none⟩) T T, .slice (some ⟨w1.heap.size, 0, none⟩) n n].toArray 122)) from (Ext.refl _).alloc _)
    simp only [World.size_alloc] at hf
    have hw0 := RowN.made w1 3 1 n n .i64 #[Value.int .i64 0] one_zero rfl (by decide) (Nat.le_refl _) (by unfold maxLen; omega)
    rw [HMI.out, Nat.mul_one] at hw0
    have hw := (hw0.mono (B' := B) (by first | omega | (simp; omega))).ext (show Ext _ (((w1.alloc (.cells MI 3)).alloc (.cells MS 160)).alloc (.cells [.slice (some ⟨gk, 0, none⟩) n ck, .slice (some ⟨gs, 0, none⟩) n cs, .slice (some ⟨w1.heap.size + 1, 0, none⟩) T T, .slice (some ⟨w1.heap.size, 0, none⟩) n n].toArray 122)) from ((Ext.refl _).alloc _).alloc _)
    have hgk := (World.ownsRow.lt HK.out gk rfl).2
    have hgs' : w.heap.size ≤ gs := by have := xwp.size; omega
    have hd := Blk.new ((w1.alloc (.cells MI 3)).alloc (.cells MS 160)) 122 [.slice (some ⟨gk, 0, none⟩) n ck, .slice (some ⟨gs, 0, none⟩) n cs, .slice (some ⟨w1.heap.size + 1, 0, none⟩) T T, .slice (some ⟨w1.heap.size, 0, none⟩) n n]
    simp only [World.size_alloc] at hd
    refine ⟨⟨w1.heap.size + 1 + 1, gk, gs, w1.heap.size + 1, w1.heap.size, ck, cs, List.replicate T (.slice none 0 0)⟩, rfl, mkDev n0 n1 T0 T1 lz (HK.out.ext xwX) ((HrC.out.mono (by have := xwp.size; omega)).ext x1X) (by omega) hf (by omega) hw hd (by omega), xwX, fun g hg => ?_⟩
    rcases hg with h | h | h | h | h | ⟨t', ht', h⟩
    · exact Or.inr (by have h' : g = w1.heap.size + 1 + 1 := h; omega)
    · exact Or.inl h
    · exact Or.inr (by have h' : g = gs := h; omega)
    · exact Or.inr (by have h' : g = w1.heap.size + 1 := h; omega)
    · exact Or.inr (by have h' : g = w1.heap.size := h; omega)
    · have ht2 : t' < T := by simpa using ht'
      have h' : ((List.replicate T (Value.slice none 0 0)).getD t' undef).ownBlock = some g := h
      rw [show (List.replicate T (Value.slice none 0 0)).getD t' undef = .slice none 0 0 from by simp [List.getD_eq_getElem?_getD, ht2]] at h'
      cases h'
  · go_ret
    have xwp : Ext w (w.alloc (.cells MS 160)).drew := ((Ext.refl w).alloc _).drew
    have x1X : Ext w1 ((w1.alloc (.cells MI 3)).alloc (.cells [.slice (some ⟨gk, 0, none⟩) n ck, .slice (some ⟨gs, 0, none⟩) n cs, .slice (some ⟨w.heap.size, 0, none⟩) T T, .slice (some ⟨w1.heap.size, 0, none⟩) n n].toArray 122)) := ((Ext.refl w1).alloc _).alloc _
    have xw1 : Ext w w1 := xwp.trans xC
    have xwX := xw1.trans x1X
    have s1 := xw1.size
    have hf0 := Blk.new w 160 (List.replicate T (Value.slice none 0 0))
    rw [HS.out] at hf0
    have hf := hf0.ext (show Ext _ ((w1.alloc (.cells MI 3)).alloc (.cells [.slice (some ⟨gk, 0, none⟩) n ck, .slice (some ⟨gs, 0, none⟩) n cs, .slice (some ⟨w.heap.size, 0, none⟩) T T, .slice (some ⟨w1.heap.size, 0, none⟩) n n].toArray 122)) from ((Ext.refl _).drew.trans xC).trans x1X)
    have hw0 := RowN.made w1 3 1 n n .i64 #[Value.int .i64 0] one_zero rfl (by decide) (Nat.le_refl _) (by unfold maxLen; omega)
    rw [HMI.out, Nat.mul_one] at hw0
    have hw := (hw0.mono (B' := B) (by first | omega | (simp; omega))).ext (show Ext _ ((w1.alloc (.cells MI 3)).alloc (.cells [.slice (some ⟨gk, 0, none⟩) n ck, .slice (some ⟨gs, 0, none⟩) n cs, .slice (some ⟨w.heap.size, 0, none⟩) T T, .slice (some ⟨w1.heap.size, 0, none⟩) n n].toArray 122)) from (Ext.refl _).alloc _)
    have hgk := (World.ownsRow.lt HK.out gk rfl).2
    have hgs' : w.heap.size ≤ gs := by have := xwp.size; omega
    have hd := Blk.new (w1.alloc (.cells MI 3)) 122 [.slice (some ⟨gk, 0, none⟩) n ck, .slice (some ⟨gs, 0, none⟩) n cs, .slice (some ⟨w.heap.size, 0, none⟩) T T, .slice (some ⟨w1.heap.size, 0, none⟩) n n]
    simp only [World.size_alloc] at hd
    refine ⟨⟨w1.heap.size + 1, gk, gs, w.heap.size, w1.heap.size, ck, cs, List.replicate T (.slice none 0 0)⟩, rfl, mkDev n0 n1 T0 T1 lz (HK.out.ext xwX) ((HrC.out.mono (by have := xwp.size; omega)).ext x1X) (by omega) hf (by omega) hw hd (by omega), xwX, fun g hg => ?_⟩
    rcases hg with h | h | h | h | h | ⟨t', ht', h⟩
    · exact Or.inr (by have h' : g = w1.heap.size + 1 := h; omega)
    · exact Or.inl h
    · exact Or.inr (by have h' : g = gs := h; omega)
    · exact Or.inr (by have h' : g = w.heap.size := h; omega)
    · exact Or.inr (by have h' : g = w1.heap.size := h; omega)
    · have ht2 : t' < T := by simpa using ht'
      have h' : ((List.replicate T (Value.slice none 0 0)).getD t' undef).ownBlock = some g := h
      rw [show (List.replicate T (Value.slice none 0 0)).getD t' undef = .slice none 0 0 from by simp [List.getD_eq_getElem?_getD, ht2]] at h'
      cases h'
  · go_ret
    have xwp : Ext w ((w.alloc (.cells MS 160)).alloc (.cells MI 3)).drew := (((Ext.refl w).alloc _).alloc _).drew
    have x1X : Ext w1 (w1.alloc (.cells [.slice (some ⟨gk, 0, none⟩) n ck, .slice (some ⟨gs, 0, none⟩) n cs, .slice (some ⟨w.heap.size, 0, none⟩) T T, .slice (some ⟨w.heap.size + 1, 0, none⟩) n n].toArray 122)) := (Ext.refl w1).alloc _
    have xw1 : Ext w w1 := xwp.trans xC
    have xwX := xw1.trans x1X
    have s1 := xw1.size
    have hf0 := Blk.new w 160 (List.replicate T (Value.slice none 0 0))
    rw [HS.out] at hf0
    have hf := hf0.ext (show Ext _ (w1.alloc (.cells [.slice (some ⟨gk, 0, none⟩) n ck, .slice (some ⟨gs, 0, none⟩) n cs, .slice (some ⟨w.heap.size, 0, none⟩) T T, .slice (some ⟨w.heap.size + 1, 0, none⟩) n n].toArray 122)) from (((Ext.refl _).alloc _).drew.trans xC).trans x1X)
    have hw0 := RowN.made (w.alloc (.cells MS 160)) 3 1 n n .i64 #[Value.int .i64 0] one_zero rfl (by decide) (Nat.le_refl _) (by unfold maxLen; omega)
    rw [HMI.out, Nat.mul_one] at hw0
    have hw := (hw0.mono (B' := B) (by first | omega | (simp; omega))).ext (show Ext _ (w1.alloc (.cells [.slice (some ⟨gk, 0, none⟩) n ck, .slice (some ⟨gs, 0, none⟩) n cs, .slice (some ⟨w.heap.size, 0, none⟩) T T, .slice (some ⟨w.heap.size + 1, 0, none⟩) n n].toArray 122)) from ((Ext.refl _).drew.trans xC).trans x1X)
    simp only [World.size_alloc] at hw
    have hgk := (World.ownsRow.lt HK.out gk rfl).2
    have hgs' : w.heap.size ≤ gs := by have := xwp.size; omega
    have hd := Blk.new w1 122 [.slice (some ⟨gk, 0, none⟩) n ck, .slice (some ⟨gs, 0, none⟩) n cs, .slice (some ⟨w.heap.size, 0, none⟩) T T, .slice (some ⟨w.heap.size + 1, 0, none⟩) n n]
    refine ⟨⟨w1.heap.size, gk, gs, w.heap.size, w.heap.size + 1, ck, cs, List.replicate T (.slice none 0 0)⟩, rfl, mkDev n0 n1 T0 T1 lz (HK.out.ext xwX) ((HrC.out.mono (by have := xwp.size; omega)).ext x1X) (by omega) hf (by omega) hw hd (by omega), xwX, fun g hg => ?_⟩
    rcases hg with h | h | h | h | h | ⟨t', ht', h⟩
    · exact Or.inr (by have h' : g = w1.heap.size := h; omega)
    · exact Or.inl h
    · exact Or.inr (by have h' : g = gs := h; omega)
    · exact Or.inr (by have h' : g = w.heap.size := h; omega)
    · exact Or.inr (by have h' : g = w.heap.size + 1 := h; omega)
    · have ht2 : t' < T := by simpa using ht'
      have h' : ((List.replicate T (Value.slice none 0 0)).getD t' undef).ownBlock = some g := h
      rw [show (List.replicate T (Value.slice none 0 0)).getD t' undef = .slice none 0 0 from by simp [List.getD_eq_getElem?_getD, ht2]] at h'
      cases h'
  · go_ret
    have xwp : Ext w (w.alloc (.cells MI 3)).drew := ((Ext.refl w).alloc _).drew
    have x1X : Ext w1 ((w1.alloc (.cells MS 160)).alloc (.cells [.slice (some ⟨gk, 0, none⟩) n ck, .slice (some ⟨gs, 0, none⟩) n cs, .slice (some ⟨w1.heap.size, 0, none⟩) T T, .slice (some ⟨w.heap.size, 0, none⟩) n n].toArray 122)) := ((Ext.refl w1).alloc _).alloc _
    have xw1 : Ext w w1 := xwp.trans xC
    have xwX := xw1.trans x1X
    have s1 := xw1.size
    have hf0 := Blk.new w1 160 (List.replicate T (Value.slice none 0 0))
    rw [HS.out] at hf0
    have hf := hf0.ext (show Ext _ ((w1.alloc (.cells MS 160)).alloc (.cells [.slice (some ⟨gk, 0, none⟩) n ck, .slice (some ⟨gs, 0, none⟩) n cs, .slice (some ⟨w1.heap.size, 0, none⟩) T T, .slice (some ⟨w.heap.size, 0, none⟩) n n].toArray 122)) from (Ext.refl _).alloc _)
    have hw0 := RowN.made w 3 1 n n .i64 #[Value.int .i64 0] one_zero rfl (by decide) (Nat.le_refl _) (by unfold maxLen; omega)
    rw [HMI.out, Nat.mul_one] at hw0
    have hw := (hw0.mono (B' := B) (by first | omega | (simp; omega))).ext (show Ext _ ((w1.alloc (.cells MS 160)).alloc (.cells [.slice (some ⟨gk, 0, none⟩) n ck, .slice (some ⟨gs, 0, none⟩) n cs, .slice (some ⟨w1.heap.size, 0, none⟩) T T, .slice (some ⟨w.heap.size, 0, none⟩) n n].toArray 122)) from ((Ext.refl _).drew.trans xC).trans x1X)
    have hgk := (World.ownsRow.lt HK.out gk rfl).2
    have hgs' : w.heap.size ≤ gs := by have := xwp.size; omega
    have hd := Blk.new (w1.alloc (.cells MS 160)) 122 [.slice (some ⟨gk, 0, none⟩) n ck, .slice (some ⟨gs, 0, none⟩) n cs, .slice (some ⟨w1.heap.size, 0, none⟩) T T, .slice (some ⟨w.heap.size, 0, none⟩) n n]
    simp only [World.size_alloc] at hd
    refine ⟨⟨w1.heap.size + 1, gk, gs, w1.heap.size, w.heap.size, ck, cs, List.replicate T (.slice none 0 0)⟩, rfl, mkDev n0 n1 T0 T1 lz (HK.out.ext xwX) ((HrC.out.mono (by have := xwp.size; omega)).ext x1X) (by omega) hf (by omega) hw hd (by omega), xwX, fun g hg => ?_⟩
    rcases hg with h | h | h | h | h | ⟨t', ht', h⟩
    · exact Or.inr (by have h' : g = w1.heap.size + 1 := h; omega)
    · exact Or.inl h
    · exact Or.inr (by have h' : g = gs := h; omega)
    · exact Or.inr (by have h' : g = w1.heap.size := h; omega)
    · exact Or.inr (by have h' : g = w.heap.size := h; omega)
    · have ht2 : t' < T := by simpa using ht'
      have h' : ((List.replicate T (Value.slice none 0 0)).getD t' undef).ownBlock = some g := h
      rw [show (List.replicate T (Value.slice none 0 0)).getD t' undef = .slice none 0 0 from by simp [List.getD_eq_getElem?_getD, ht2]] at h'
      cases h'
  · go_ret
    have xwp : Ext w ((w.alloc (.cells MI 3)).alloc (.cells MS 160)).drew := (((Ext.refl w).alloc _).alloc _).drew
    have x1X : Ext w1 (w1.alloc (.cells [.slice (some ⟨gk, 0, none⟩) n ck, .slice (some ⟨gs, 0, none⟩) n cs, .slice (some ⟨w.heap.size + 1, 0, none⟩) T T, .slice (some ⟨w.heap.size, 0, none⟩) n n].toArray 122)) := (Ext.refl w1).alloc _
    have xw1 : Ext w w1 := xwp.trans xC
    have xwX := xw1.trans x1X
    have s1 := xw1.size
    have hf0 := Blk.new (w.alloc (.cells MI 3)) 160 (List.replicate T (Value.slice none 0 0))
    rw [HS.out] at hf0
    have hf := hf0.ext (show Ext _ (w1.alloc (.cells [.slice (some ⟨gk, 0, none⟩) n ck, .slice (some ⟨gs, 0, none⟩) n cs, .slice (some ⟨w.heap.size + 1, 0, none⟩) T T, .slice (some ⟨w.heap.size, 0, none⟩) n n].toArray 122)) from ((Ext.refl _).drew.trans xC).trans x1X)
    simp only [World.size_alloc] at hf
    have hw0 := RowN.made w 3 1 n n .i64 #[Value.int .i64 0] one_zero rfl (by decide) (Nat.le_refl _) (by unfold maxLen; omega)
    rw [HMI.out, Nat.mul_one] at hw0
    have hw := (hw0.mono (B' := B) (by first | omega | (simp; omega))).ext (show Ext _ (w1.alloc (.cells [.slice (some ⟨gk, 0, none⟩) n ck, .slice (some ⟨gs, 0, none⟩) n cs, .slice (some ⟨w.heap.size + 1, 0, none⟩) T T, .slice (some ⟨w.heap.size, 0, none⟩) n n].toArray 122)) from (((Ext.refl _).alloc _).drew.trans xC).trans x1X)
    have hgk := (World.ownsRow.lt HK.out gk rfl).2
    have hgs' : w.heap.size ≤ gs := by have := xwp.size; omega
    have hd := Blk.new w1 122 [.slice (some ⟨gk, 0, none⟩) n ck, .slice (some ⟨gs, 0, none⟩) n cs, .slice (some ⟨w.heap.size + 1, 0, none⟩) T T, .slice (some ⟨w.heap.size, 0, none⟩) n n]
    refine ⟨⟨w1.heap.size, gk, gs, w.heap.size + 1, w.heap.size, ck, cs, List.replicate T (.slice none 0 0)⟩, rfl, mkDev n0 n1 T0 T1 lz (HK.out.ext xwX) ((HrC.out.mono (by have := xwp.size; omega)).ext x1X) (by omega) hf (by omega) hw hd (by omega), xwX, fun g hg => ?_⟩
    rcases hg with h | h | h | h | h | ⟨t', ht', h⟩
    · exact Or.inr (by have h' : g = w1.heap.size := h; omega)
    · exact Or.inl h
    · exact Or.inr (by have h' : g = gs := h; omega)
    · exact Or.inr (by have h' : g = w.heap.size + 1 := h; omega)
    · exact Or.inr (by have h' : g = w.heap.size := h; omega)
    · have ht2 : t' < T := by simpa using ht'
      have h' : ((List.replicate T (Value.slice none 0 0)).getD t' undef).ownBlock = some g := h
      rw [show (List.replicate T (Value.slice none 0 0)).getD t' undef = .slice none 0 0 from by simp [List.getD_eq_getElem?_getD, ht2]] at h'
      cases h'
end Go.Proofs.YtolengkegjipaaaGreat


/- A device of noughts; of no device; the page's example. Conditions: those that each theorem names. -/
namespace Go.Proofs.YtolengkegjipaaaGreat
open Go.ChangeShapes Go.WideShapes Go.ChangeAt Go.RowKit
set_option linter.unusedVariables false
theorem lim_noughts (n : Nat) : Lim (List.replicate n 0) 18446744073709551616 := LM.lim_of fun z hz => by rw [(List.mem_replicate.1 hz).2]; decide
/-- What hands back a device and no error. -/
def DevNew (w : World) (s : DSt) (r : Ending) (w' : World) : Prop := ∃ D : DevB, r = .returned (.tuple #[D.ptr, .int .i64 0]) ∧ IsDev w.heap.size w' D s ∧ Ext w w'
/-- A device behind some calls, at a pointer; other blocks, which it has not, are as they were. -/
def AtQ (Q : Nat → Prop) (wb w0 w : World) (v : Value) (s : DSt) : Prop := ∃ D : DevB, v = D.ptr ∧ IsDev w0.heap.size w D s ∧ Ext w0 w ∧ ∀ g, Q g → g < w.heap.size ∧ ¬ D.foot g ∧ w.heap[g]? = wb.heap[g]?
abbrev At (w0 w : World) (v : Value) (s : DSt) : Prop := AtQ (fun _ => False) w0 w0 w v s
theorem At.mk {w0 w : World} {D : DevB} {s : DSt} (h : IsDev w0.heap.size w D s) (x : Ext w0 w) : At w0 w D.ptr s := ⟨D, rfl, h, x, fun _ hg => hg.elim⟩
theorem AtQ.off {Q : Nat → Prop} {wb w w' : World} {D D' : DevB} (hQ : ∀ g, Q g → g < w.heap.size ∧ ¬ D.foot g ∧ w.heap[g]? = wb.heap[g]?) (f : Fr D.foot w w') (hf : ∀ g, D'.foot g → D.foot g ∨ w.heap.size ≤ g) : ∀ g, Q g → g < w'.heap.size ∧ ¬ D'.foot g ∧ w'.heap[g]? = wb.heap[g]? := fun g hg => by
  obtain ⟨h1, h2, h3⟩ := hQ g hg
  exact ⟨Nat.lt_of_lt_of_le h1 f.size, fun h => (hf g h).elim h2 (by omega), (f.block g h1 h2).trans h3⟩
theorem AtQ.back {Q : Nat → Prop} {wb w0 w w' : World} {D : DevB} {s s' : DSt} {r r' : Ending} (h : IsDev w0.heap.size w D s) (x : Ext w0 w) (hQ : ∀ g, Q g → g < w.heap.size ∧ ¬ D.foot g ∧ w.heap[g]? = wb.heap[g]?) (b : DevBack w0.heap.size w D s' r r' w') : r' = r ∧ AtQ Q wb w0 w' D.ptr s' := by
  obtain ⟨rfl, D', e, h', f, hf⟩ := b
  exact ⟨rfl, D', by unfold DevB.ptr; rw [e], h', f.ext x (fun g hg => (h.foot_ge hg).1), AtQ.off hQ f hf⟩
section
variable {Q : Nat → Prop} {wb w0 w : World} {v : Value} {s : DSt}
theorem AtQ.store (h : AtQ Q wb w0 w v s) (p : Nat) (ha : p < s.n * 8) (x : Int) (hx : 0 ≤ x ∧ x < 18446744073709551616) :
    Calls Tryz.prog 71 #[v, .int .i64 (p : Int), .int .u64 x] w fun e w' => e = .returned (.int .i64 0) ∧ AtQ Q wb w0 w' v { s with seen := s.seen.set p x } := by
  obtain ⟨D, rfl, h, ext, hQ⟩ := h
  exact (store_ok _ _ _ _ h p ha x hx).mono fun _ _ b => AtQ.back h ext hQ b
theorem AtQ.fence (h : AtQ Q wb w0 w v s) (t : Nat) (ht : t < s.T) (hw : Few s.writes 10000000000) (hl : (s.fl.getD t []).length ≤ 1000000000) (hin : ∀ x ∈ s.fl.getD t [], 0 ≤ x ∧ x < (s.n : Int)) :
    Calls Tryz.prog 118 #[v, .int .i64 (t : Int)] w fun e w' => e = .returned (.int .i64 0) ∧ AtQ Q wb w0 w' v { s.backs (s.fl.getD t []) with fl := s.fl.set t [] } := by
  obtain ⟨D, rfl, h, ext, hQ⟩ := h
  exact (fence_ok _ _ _ _ h t ht hw hl hin).mono fun _ _ b => AtQ.back h ext hQ b
theorem AtQ.load (h : AtQ Q wb w0 w v s) (p : Nat) (ha : p < s.n * 8) :
    Calls Tryz.prog 77 #[v, .int .i64 (p : Int)] w fun e w' => e = .returned (.tuple #[.int .u64 (s.seen.getD p 0), .int .i64 0]) ∧ AtQ Q wb w0 w' v s := by
  obtain ⟨D, rfl, h, ext, hQ⟩ := h
  refine (load_ok _ _ _ _ h p ha).mono ?_
  rintro e w' ⟨he, rfl⟩
  exact ⟨he, D, rfl, h, ext, hQ⟩
theorem AtQ.writes (h : AtQ Q wb w0 w v s) (p : Nat) (ha : p < s.n) :
    Calls Tryz.prog 129 #[v, .int .i64 (p : Int)] w fun e w' => e = .returned (.int .i64 (s.writes.getD p 0)) ∧ AtQ Q wb w0 w' v s := by
  obtain ⟨D, rfl, h, ext, hQ⟩ := h
  refine (writes_ok _ _ _ _ h p ha).mono ?_
  rintro e w' ⟨he, rfl⟩
  exact ⟨he, D, rfl, h, ext, hQ⟩
end
end Go.Proofs.YtolengkegjipaaaGreat

